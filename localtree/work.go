package localtree

import (
	"slices"

	"aquifer/api"
	"aquifer/chunk"
	"aquifer/content"
	"aquifer/table"
)

// work is the changes of one call, which are done one by one.
type work struct {
	t     *table.Txn
	err   api.Errno // of the change that failed: no other one is done behind it
	backs []func()  // what takes back the changes that were done
}

// piece is a chunk of a content, and its place.
type piece struct {
	i int
	s string
}

// do does a change, which changes nothing if it fails: then those ahead of it are taken back, the last one first.
func (w *work) do(change check, backs ...func()) {
	if w.err != api.OK {
		return
	}
	w.err = change()
	if w.err == api.OK {
		w.backs = append(w.backs, backs...)
		return
	}
	for _, takeBack := range slices.Backward(w.backs) {
		takeBack()
	}
}

// set lets an inode be at a path, where another one was; one of Kind 0 is nothing.
func (w *work) set(p string, was, is api.Inode) {
	w.do(
		func() api.Errno { return setNode(w.t, p, is) },
		func() { setNode(w.t, p, was) },
	)
}

// drop lets a content go, if there is one.
func (w *work) drop(id int) {
	if id == 0 {
		return
	}
	var had []piece
	w.do(
		func() (e api.Errno) {
			had, e = piecesOf(w.t, id)
			return told(unless(e == api.OK, e), func() api.Errno { return content.Drop(w.t, id) })
		},
		func() {
			for _, x := range had {
				content.Set(w.t, id, x.i, x.s)
			}
		},
	)
}

// put gives the next content. It is the last change of its call, so nothing takes it back.
func (w *work) put(s string) {
	w.do(func() api.Errno { _, e := content.Put(w.t, s); return e })
}

// piecesOf tells the chunks that a content has.
func piecesOf(t *table.Txn, id int) ([]piece, api.Errno) {
	places, e := content.Have(t, id)
	if e != api.OK {
		return nil, e
	}
	l := make([]piece, len(places))
	for n, i := range places {
		s, _, e := content.Get(t, id, i)
		if e != api.OK {
			return nil, e
		}
		l[n] = piece{i, s}
	}
	return l, api.OK
}

// rewrite lets a file have the bytes s in a new content, and be else what n says.
func (x *spot) rewrite(n api.Inode, s string) api.Errno {
	last, e := content.Last(x.t)
	if e != api.OK {
		return e
	}
	if last >= api.MaxTime {
		return api.ErrFull
	}
	// The old content goes first: so the new one has its room too, and its pages. The row is put ahead of the new content, whose number can't be given back.
	n.Size, n.Sum, n.Content = len(s), chunk.Sum(s), last+1
	w := work{t: x.t}
	w.drop(x.node.Content)
	w.set(x.p, x.node, n)
	w.put(s)
	return w.err
}
