package pagedb

import (
	"strings"

	"aquifer/api"
)

// plainKind is the kind of a page that was allocated and not written yet.
const plainKind = 1

// Tx is a transaction. It is open as long as its database says so.
type Tx struct {
	db     *DB // nil in what Begin did not make, and in one that has ended
	now    state
	pages  map[int]sheet // what it has changed, page 0 among it
	spoilt bool
}

// Read tells a page's kind and body.
func (t *Tx) Read(id int) (kind int, body string, e api.Errno) {
	has, e := t.there(id)
	return has.kind, has.body, e
}

// Write makes these a page's kind and body.
func (t *Tx) Write(id, kind int, body string) api.Errno {
	_, e := t.there(id)
	switch {
	case e != api.OK:
		return e
	case kind < 1 || kind >= api.KdFree:
		return api.ErrArg
	case len(body) > api.MaxBody:
		return api.ErrLong
	}
	t.pages[id] = sheet{kind, strings.Clone(body)}
	return api.OK
}

// Alloc tells a page that is there from now on: the one that came free last, or, if there is none, the one at the high mark.
func (t *Tx) Alloc() (int, api.Errno) {
	if e := t.ready(); e != api.OK {
		return 0, e
	}
	id := t.now.last
	if id == 0 {
		id = t.now.high
		if id >= t.db.count {
			return 0, api.ErrFull
		}
		t.now.high++
	} else if e := t.unlink(); e != api.OK {
		return 0, e
	}
	t.pages[id] = sheet{kind: plainKind}
	t.mark()
	return id, api.OK
}

// Free makes a page free. It keeps the number of the one that came free ahead of it: so the order of all that are free needs no room of its own.
func (t *Tx) Free(id int) api.Errno {
	if _, e := t.there(id); e != api.OK {
		return e
	}
	t.pages[id] = freeSheet(t.now.last)
	t.now.last = id
	t.now.free++
	t.mark()
	return api.OK
}

// Root tells a root.
func (t *Tx) Root(i int) int {
	if !t.isOpen() || !isRoot(i) {
		return 0
	}
	return t.now.roots[i]
}

// SetRoot sets a root.
func (t *Tx) SetRoot(i, n int) api.Errno {
	if e := t.ready(); e != api.OK {
		return e
	}
	if !isRoot(i) || n < 0 || n > maxRoot {
		return api.ErrArg
	}
	t.now.roots[i] = n
	t.mark()
	return api.OK
}

// Commit makes the database what the transaction sees, for good. Where the disk fails it has not ended: it is lost with its database.
func (t *Tx) Commit() api.Errno {
	e := t.ready()
	if e != api.OK {
		return e
	}
	switch k := t.Changed(); {
	case t.spoilt:
		e = api.ErrState
	case !t.db.holds(k):
		e = api.ErrFull
	case k > 0:
		e = t.db.heed(t.db.take(t.pages, t.now))
	}
	if !t.db.lost {
		t.Abort()
	}
	return e
}

// Abort ends the transaction, and lets go what it has changed.
func (t *Tx) Abort() {
	if !t.isOpen() {
		return
	}
	t.db.open = nil
	*t = Tx{}
}

// Changed tells how many pages were changed, page 0 among them.
func (t *Tx) Changed() int {
	if !t.isOpen() {
		return 0
	}
	return len(t.pages)
}

// Spoil lets Commit refuse the transaction.
func (t *Tx) Spoil() {
	if t.isOpen() {
		t.spoilt = true
	}
}

// isOpen tells whether the transaction is one that Begin made, and has not ended.
func (t *Tx) isOpen() bool {
	return t != nil && t.db != nil && t.db.open == t
}

// ready tells OK, if the transaction is open, and its database not lost.
func (t *Tx) ready() api.Errno {
	switch {
	case !t.isOpen():
		return api.ErrNil
	case t.db.lost:
		return api.ErrDown
	}
	return api.OK
}

// look tells what a page has, as the transaction sees it.
func (t *Tx) look(id int) (sheet, api.Errno) {
	if has, there := t.pages[id]; there {
		return has, api.OK
	}
	return t.db.look(id)
}

// there tells what a page has that is there.
func (t *Tx) there(id int) (sheet, api.Errno) {
	if e := t.ready(); e != api.OK {
		return sheet{}, e
	}
	if id < 1 || id >= t.now.high {
		return sheet{}, api.ErrArg
	}
	has, e := t.look(id)
	switch {
	case e != api.OK:
		return sheet{}, e
	case has.kind == api.KdFree:
		return sheet{}, api.ErrNone
	}
	return has, api.OK
}

// unlink lets the page that came free last be free no more: the one ahead of it is the last one then.
func (t *Tx) unlink() api.Errno {
	has, e := t.look(t.now.last)
	if e != api.OK {
		return e
	}
	then := t.now
	then.free--
	ahead, isFree := readFree(has)
	then.last = ahead
	if !isFree || !then.sound(t.db.count) {
		return api.ErrForm
	}
	t.now = then
	return api.OK
}

// mark lets the transaction change page 0 too, which tells the state.
func (t *Tx) mark() {
	t.pages[0] = t.now.sheet()
}
