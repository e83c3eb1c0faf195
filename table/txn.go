package table

import (
	"iter"

	"aquifer/api"
	"aquifer/btree"
	"aquifer/cursor"
	"aquifer/field"
	"aquifer/keycode"
	"aquifer/pagedb"
)

// maxTable is the greatest number of a table.
const maxTable = 1<<31 - 1

// Txn is a transaction. It may be nil, and of nil nothing that is promoted can be called: so what embeds the page's transaction stands within it.
type Txn struct {
	within change
}

// change is the page's transaction, with the tree that it sees.
type change struct {
	*pagedb.Tx // nil in what Begin did not make
	tree       *btree.Tree
}

// Get tells the record that a key has, and whether there is one.
func (t *Txn) Get(table int, key []api.Part) (rec []api.Field, there bool, e api.Errno) {
	c := t.own()
	code, e := c.code(table, key)
	if e != api.OK {
		return nil, false, e
	}
	val, there, e := c.tree.Get(code)
	if !there {
		return nil, false, e
	}
	rec, e = field.Decode(val)
	return rec, e == api.OK, e
}

// Put lets a key have that record.
func (t *Txn) Put(table int, key []api.Part, rec []api.Field) api.Errno {
	c := t.own()
	code, e := c.code(table, key)
	if e != api.OK {
		return e
	}
	val, e := field.Encode(rec)
	if e != api.OK {
		return e
	}
	// A record of more than MaxVal bytes is refused by the tree, ahead of its other errors.
	return c.tree.Put(code, val)
}

// Delete lets a key have no record, and tells whether it had one.
func (t *Txn) Delete(table int, key []api.Part) (there bool, e api.Errno) {
	c := t.own()
	code, e := c.code(table, key)
	if e != api.OK {
		return false, e
	}
	return c.tree.Delete(code)
}

// Scan tells the rows of a table whose keys begin with the parts of prefix, in the order of the keys.
func (t *Txn) Scan(table int, prefix []api.Part) ([]api.Row, api.Errno) {
	c := t.own()
	code, e := c.code(table, prefix)
	if e != api.OK {
		return nil, e
	}
	var rows []api.Row
	for row, e := range c.rows(code) {
		if e != api.OK {
			return nil, e
		}
		rows = append(rows, row)
	}
	return rows, api.OK
}

// Commit makes the store what the transaction sees, for good.
func (t *Txn) Commit() api.Errno {
	return t.own().Commit()
}

// Abort ends the transaction, and lets go what it has changed.
func (t *Txn) Abort() {
	t.own().Abort()
}

// own tells what embeds the page's transaction: of a nil transaction one that refuses all calls.
func (t *Txn) own() change {
	if t == nil {
		return change{}
	}
	return t.within
}

// isOpen tells whether Begin made the transaction, and it has not ended. Page 0 is never told: what matters is why.
func (c change) isOpen() bool {
	_, _, e := c.Read(0)
	return e != api.ErrNil
}

// code tells the bytes of a key in a table, or of a key's beginning.
func (c change) code(table int, key []api.Part) (string, api.Errno) {
	switch {
	case !c.isOpen():
		return "", api.ErrNil
	case table < 0 || table > maxTable:
		return "", api.ErrArg
	}
	return keycode.Encode(append([]api.Part{keycode.Num(table)}, key...))
}

// rows goes over the rows whose keys' bytes begin with code; an error ends it.
func (c change) rows(code string) iter.Seq2[api.Row, api.Errno] {
	return func(yield func(api.Row, api.Errno) bool) {
		// There is a bound: the byte with which a table's number begins has others above it.
		bound, _ := keycode.After(code)
		entries, e := cursor.All(c.tree, code, bound)
		if e != api.OK {
			yield(api.Row{}, e)
			return
		}
		for _, x := range entries {
			row, e := rowOf(x)
			if !yield(row, e) || e != api.OK {
				return
			}
		}
	}
}

// rowOf tells the row of which an entry is, with its key as it is in its table.
func rowOf(x api.Entry) (api.Row, api.Errno) {
	key, e := keycode.Decode(x.Key)
	if e != api.OK {
		return api.Row{}, e
	}
	rec, e := field.Decode(x.Val)
	if e != api.OK {
		return api.Row{}, e
	}
	return api.Row{Key: key[1:], Rec: rec}, api.OK
}
