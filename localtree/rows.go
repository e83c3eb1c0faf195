package localtree

import (
	"aquifer/api"
	"aquifer/inode"
	"aquifer/path"
	"aquifer/table"
)

// move is a path that becomes another one, with what is there.
type move struct {
	from, to string
	node     api.Inode
}

// nodeAt tells what is at a path; where nothing is, an inode of Kind 0.
func nodeAt(t *table.Txn, p string) (api.Inode, api.Errno) {
	if p == "" {
		return api.Inode{Kind: api.PaDir}, api.OK
	}
	key, e := inode.Key(p)
	if e != api.OK {
		return api.Inode{}, e
	}
	rec, there, e := t.Get(api.TbNode, key)
	if !there {
		return api.Inode{}, e
	}
	return nodeIn(p, rec)
}

// setNode lets an inode be at a path; one of Kind 0: nothing.
func setNode(t *table.Txn, p string, n api.Inode) api.Errno {
	key, e := inode.Key(p)
	if e != api.OK {
		return e
	}
	if n.Kind == 0 {
		_, e := t.Delete(api.TbNode, key)
		return e
	}
	rec, e := inode.Encode(n)
	if e != api.OK {
		return e
	}
	return t.Put(api.TbNode, key, rec)
}

// nodeIn tells the inode that a record of a path has. One of the other kind is none of that path.
func nodeIn(p string, rec []api.Field) (api.Inode, api.Errno) {
	n, e := inode.Decode(rec)
	if e != api.OK {
		return api.Inode{}, e
	}
	if kind, _ := path.Kind(p); kind != n.Kind {
		return api.Inode{}, api.ErrForm
	}
	return n, api.OK
}

// itemsAt tells what is at a path and below it, in the order of the paths, which is that of the rows. The root is in no row.
func itemsAt(t *table.Txn, p string) ([]api.Item, api.Errno) {
	key, e := inode.Key(p)
	if e != api.OK {
		return nil, e
	}
	rows, e := t.Scan(api.TbNode, key)
	if e != api.OK {
		return nil, e
	}
	items := make([]api.Item, len(rows))
	for i, row := range rows {
		items[i], e = itemIn(row)
		if e != api.OK {
			return nil, e
		}
	}
	return items, api.OK
}

// itemIn tells the path of a row, and its inode.
func itemIn(row api.Row) (api.Item, api.Errno) {
	p, e := inode.Path(row.Key)
	if e != api.OK {
		return api.Item{}, e
	}
	n, e := nodeIn(p, row.Rec)
	if e != api.OK {
		return api.Item{}, e
	}
	return api.Item{Path: p, Node: n}, api.OK
}

// movesOf tells what becomes of each path at from, and below it, where from becomes to.
func movesOf(t *table.Txn, from, to string) ([]move, api.Errno) {
	items, e := itemsAt(t, from)
	if e != api.OK {
		return nil, e
	}
	moves := make([]move, len(items))
	for i, item := range items {
		moved, e := path.Moved(item.Path, from, to)
		if e != api.OK {
			return nil, e
		}
		moves[i] = move{item.Path, moved, item.Node}
	}
	return moves, api.OK
}

// missingAbove tells the directories that a path lies in and that are not there.
func missingAbove(t *table.Txn, p string) ([]string, api.Errno) {
	var missing []string
	for up := range path.Ups(p) {
		n, e := nodeAt(t, up)
		if e != api.OK {
			return nil, e
		}
		if n.Kind == 0 {
			missing = append(missing, up)
		}
	}
	return missing, api.OK
}
