package content

import (
	"iter"

	"aquifer/api"
	"aquifer/field"
	"aquifer/keycode"
	"aquifer/table"
)

const (
	lastKey = 1                           // under it stands the greatest number
	onlyTag = 1                           // the tag of a row's only field
	places  = api.MaxSize / api.ChunkSize // how many chunks a content has at most
)

// spot is where a chunk stands: its content's number, and its place.
type spot struct{ id, i int }

// key tells the key of numbers.
func key(numbers ...int) []api.Part {
	l := make([]api.Part, len(numbers))
	for i, n := range numbers {
		l[i] = keycode.Num(n)
	}
	return l
}

// numberIn tells the number that a record has, and whether it has one.
func numberIn(rec []api.Field) (int, bool) {
	return field.Num(rec, onlyTag)
}

// chunkIn tells the chunk that a record has, and whether it has one.
func chunkIn(rec []api.Field) (string, bool) {
	s, _ := field.Text(rec, onlyTag)
	if chunkFault(s) != api.OK {
		return "", false
	}
	return s, true
}

// spotIn tells where the chunk of a key stands, and whether a chunk may stand there.
func spotIn(k []api.Part) (spot, bool) {
	if len(k) != 2 {
		return spot{}, false
	}
	at := spot{k[0].N, k[1].N}
	return at, k[0] == keycode.Num(at.id) && k[1] == keycode.Num(at.i) && at.id >= 1 && isPlace(at.i)
}

// chunksIn goes over the chunks that rows have. What else stands there is passed over.
func chunksIn(rows []api.Row) iter.Seq2[spot, string] {
	return func(yield func(spot, string) bool) {
		for _, row := range rows {
			at, isSpot := spotIn(row.Key)
			s, isChunk := chunkIn(row.Rec)
			if isSpot && isChunk && !yield(at, s) {
				return
			}
		}
	}
}

// rowsOf tells the rows of a content, if there is one of that number.
func rowsOf(t *table.Txn, id int) ([]api.Row, api.Errno) {
	if e := fault(t, id, true); e != api.OK {
		return nil, e
	}
	return t.Scan(api.TbChunk, key(id))
}

// chunkAt tells the chunk at a place, and whether it is there.
func chunkAt(t *table.Txn, id, i int) (s string, there bool, e api.Errno) {
	rec, _, e := t.Get(api.TbChunk, key(id, i))
	if e != api.OK {
		return "", false, e
	}
	s, there = chunkIn(rec)
	return s, there, api.OK
}

func putChunk(t *table.Txn, id, i int, s string) api.Errno {
	return t.Put(api.TbChunk, key(id, i), []api.Field{{Tag: onlyTag, Kind: api.FdText, S: s}})
}

// give puts a new content's chunks, and then the number: as long as that was not given an error leaves nothing but chunks of no content, which go again.
func give(t *table.Txn, id int, chunks []string) api.Errno {
	e := putChunks(t, id, chunks)
	if e == api.OK {
		e = t.Put(api.TbNext, key(lastKey), []api.Field{{Tag: onlyTag, Kind: api.FdNum, N: id}})
	}
	if e != api.OK {
		for i := range chunks {
			t.Delete(api.TbChunk, key(id, i))
		}
	}
	return e
}

func putChunks(t *table.Txn, id int, chunks []string) api.Errno {
	for i, s := range chunks {
		if e := putChunk(t, id, i, s); e != api.OK {
			return e
		}
	}
	return api.OK
}

// putBack puts rows again that were deleted.
func putBack(t *table.Txn, rows []api.Row) {
	for _, row := range rows {
		t.Put(api.TbChunk, row.Key, row.Rec)
	}
}
