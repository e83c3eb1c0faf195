package table

import (
	"fmt"
	"math"
	"slices"
	"strings"
	"testing"

	"aquifer/api"
)

// P14.2, P14.3: no transaction, one that Begin did not make, and those that have ended, each in its way; they end no other one.
func TestNoTransaction(t *testing.T) {
	s := made(t, 20)
	none := map[string]*Txn{"nil": nil, "one that Begin did not make": {}, "a new one": new(Txn)}
	committed := begun(t, s)
	wantE(t, "Put", committed.Put(1, key("a"), rec(1)), api.OK)
	wantE(t, "Commit", committed.Commit(), api.OK)
	none["one that has committed"] = committed
	idle := begun(t, s)
	wantE(t, "Commit", idle.Commit(), api.OK)
	none["one that has committed nothing"] = idle
	aborted := begun(t, s)
	aborted.Abort()
	none["one that was aborted"] = aborted
	full := begun(t, s)
	wantE(t, "Put", full.Put(1, key("a"), recOf(1<<14)), api.ErrFull)
	wantE(t, "Commit", full.Commit(), api.ErrState)
	none["one that was refused"] = full
	for what, a := range none {
		wantEnded(t, what, a)
	}
	b := paired(t, s, plain{{1, key("a"), rec(1)}})
	for what, a := range none {
		wantEnded(t, what+", while another one is open", a)
	}
	b.put(1, key("b"), rec(2))
	b.want("beside those that have ended")
	wantEnded(t, "aborted", aborted)
	b.commit()
}

// P14.2: numbers of tables, from the least to the greatest of Go's.
func TestTableNumbers(t *testing.T) {
	b := paired(t, made(t, 40), nil)
	may := []int{0, 1, 2, 8, 255, 256, 1 << 30, 1<<31 - 2, 1<<31 - 1}
	for i, table := range mixed(may) {
		b.put(table, key("a"), rec(i))
		b.put(table, nil, rec(table))
	}
	b.want("tables")
	for _, table := range []int{math.MinInt, -1 << 31, -2, -1, 1 << 31, 1<<31 + 1, 1 << 32, 1<<32 + 1, math.MaxInt} {
		what := fmt.Sprint("table ", table)
		for _, k := range [][]api.Part{nil, key("a"), key(1, 2, 3)} {
			wantNothing(t, what, b.a, table, k, api.ErrArg)
		}
	}
	b.want("behind those that are none")
	for _, table := range may {
		b.drop(table, key("a"))
		b.drop(table, nil)
	}
	b.want("none is left")
}

// times tells so many parts.
func times(n int, p api.Part) []api.Part { return slices.Repeat([]api.Part{p}, n) }

// P14.2: keys that keycode refuses, for each of its reasons, with the table's number ahead; and those just within its bounds.
func TestKeysThatMayNotBe(t *testing.T) {
	b := paired(t, made(t, 60), nil)
	b.put(1, key("a"), rec(1))
	long := strings.Repeat("x", 120)
	for i, c := range []struct {
		key  []api.Part
		want api.Errno
	}{
		{times(15, text("")), api.OK},
		{times(16, text("")), api.ErrFull},
		{times(17, text("")), api.ErrFull},
		{times(1000, num(1)), api.ErrFull},
		{make([]api.Part, 16), api.ErrFull},
		{make([]api.Part, 15), api.ErrArg},
		{times(14, num(1)), api.OK},
		{times(15, num(1)), api.ErrLong},
		{[]api.Part{{}}, api.ErrArg},
		{[]api.Part{{Kind: 3}}, api.ErrArg},
		{[]api.Part{{Kind: -1, N: 1}}, api.ErrArg},
		{[]api.Part{{Kind: math.MaxInt, S: "x"}}, api.ErrArg},
		{[]api.Part{{Kind: api.PtNum, N: 1, S: "x"}}, api.ErrArg},
		{[]api.Part{{Kind: api.PtText, N: 1, S: "x"}}, api.ErrArg},
		{[]api.Part{num(1), text("a"), {Kind: 4}}, api.ErrArg},
		{key(long), api.OK},
		{key(long + "x"), api.ErrLong},
		{key(strings.Repeat("\x00", 121)), api.ErrLong},
		{key(long, "12345"), api.OK},
		{key(long, "123456"), api.ErrLong},
		{key(strings.Repeat("\x00", 64)), api.OK},
		{key(strings.Repeat("\x00", 64) + "x"), api.ErrLong},
		{append(key(long+"x"), api.Part{}), api.ErrLong},
		{append([]api.Part{{}}, key(long+"x")...), api.ErrArg},
	} {
		for _, table := range []int{0, 1, maxTable} {
			what := fmt.Sprint("key ", i, " in table ", table)
			if c.want == api.OK {
				b.put(table, c.key, rec(i))
				b.get(what, table, c.key)
				continue
			}
			wantNothing(t, what, b.a, table, c.key, c.want)
		}
	}
	b.want("keys")
	b.commit()
}

// P14.2: records that field refuses, for each of its reasons, and those that are too long; nothing is put then.
func TestRecordsThatMayNotBe(t *testing.T) {
	b := paired(t, made(t, 200), nil)
	b.put(1, key("a"), rec("old"))
	num := func(tag, n int) api.Field { return api.Field{Tag: tag, N: n} }
	txt := func(tag int, s string) api.Field { return api.Field{Tag: tag, Kind: api.FdText, S: s} }
	for i, c := range []struct {
		rec  []api.Field
		want api.Errno
	}{
		{nil, api.OK},
		{[]api.Field{}, api.OK},
		{[]api.Field{num(1, 0), num(1, 0), txt(1, ""), num(63, 1<<62)}, api.OK},
		{[]api.Field{num(0, 1)}, api.ErrArg},
		{[]api.Field{num(64, 1)}, api.ErrArg},
		{[]api.Field{num(-1, 1)}, api.ErrArg},
		{[]api.Field{{Tag: 1, Kind: 2}}, api.ErrArg},
		{[]api.Field{{Tag: 1, Kind: -1}}, api.ErrArg},
		{[]api.Field{num(1, -1)}, api.ErrArg},
		{[]api.Field{num(1, 1<<62+1)}, api.ErrArg},
		{[]api.Field{{Tag: 1, N: 1, S: "x"}}, api.ErrArg},
		{[]api.Field{{Tag: 1, Kind: api.FdText, N: 1, S: "x"}}, api.ErrArg},
		{[]api.Field{txt(1, textOf(4096))}, api.OK},
		{[]api.Field{txt(1, textOf(4097))}, api.ErrLong},
		{[]api.Field{num(2, 1), num(1, 1)}, api.ErrState},
		{[]api.Field{num(2, 1), num(1, -1)}, api.ErrArg},
		{append(recOf(1<<15), num(1, 1)), api.ErrState},
		{recOf(2), api.OK},
		{recOf(1<<14 - 1), api.OK},
		{recOf(1 << 14), api.OK},
		{recOf(1<<14 + 1), api.ErrLong},
		{recOf(1 << 15), api.ErrLong},
		{recOf(1 << 16), api.ErrLong},
		{recOf(1<<16 + 1), api.ErrLong},
	} {
		what := fmt.Sprint("record ", i)
		for _, k := range [][]api.Part{key("a"), key("new", i)} {
			if c.want == api.OK {
				b.put(1, k, c.rec)
				b.get(what, 1, k)
				continue
			}
			wantE(t, what, b.a.Put(1, k, c.rec), c.want)
			b.get(what, 1, k)
		}
	}
	b.want("records")
}

// P14.2: several errors at once: the one that the chapter names first.
func TestErrorsInOrder(t *testing.T) {
	s := made(t, 6)
	b := paired(t, s, nil)
	b.put(1, key("a"), rec(1))
	fields := []api.Field{{}}
	none := (*Txn)(nil)
	wantE(t, "nil ahead of all", none.Put(-1, make([]api.Part, 17), fields), api.ErrNil)
	wantNothing(t, "the table ahead of the key", b.a, -1, make([]api.Part, 17), api.ErrArg)
	wantNothing(t, "the table ahead of the key", b.a, 1<<31, key(strings.Repeat("x", 121)), api.ErrArg)
	wantE(t, "the table ahead of the record", b.a.Put(-1, key("a"), recOf(1<<15)), api.ErrArg)
	wantE(t, "the key ahead of the record", b.a.Put(1, make([]api.Part, 17), fields), api.ErrFull)
	wantE(t, "the key ahead of the record", b.a.Put(1, key(strings.Repeat("x", 121)), fields), api.ErrLong)
	wantE(t, "the key ahead of the record", b.a.Put(1, make([]api.Part, 1), recOf(1<<15)), api.ErrArg)
	wantE(t, "the record's fields ahead of how long it is", b.a.Put(1, key("a"), append(recOf(1<<15), fields...)), api.ErrArg)
	wantE(t, "how long it is ahead of the room", b.a.Put(1, key("a"), recOf(1<<14+1)), api.ErrLong)
	b.want("all were refused")
	b.commit()
	b = paired(t, s, b.has)
	wantE(t, "no room", b.a.Put(1, key("a"), recOf(1<<14)), api.ErrFull)
	wantE(t, "how long it is ahead of the room", b.a.Put(1, key("a"), recOf(1<<14+1)), api.ErrLong)
	b.want("no room")
	wantE(t, "Commit", b.a.Commit(), api.ErrState)
}

// P14.2: a key that is there, and one that is not; one that is put again with another record; Delete of each, twice.
func TestGetPutDelete(t *testing.T) {
	s := made(t, 120)
	b := paired(t, s, nil)
	keys := [][]api.Part{nil, key(0), key(1), key(-1), key(math.MinInt), key(math.MaxInt), key(""), key("a"), key("a", ""), key("a", "b"), key("ab"), key("a", 0), key("\x00"), key("\x00\xff"), key("\xff"), key(strings.Repeat("\xff", 120)), times(15, text("")), times(14, num(-1))}
	recs := [][]api.Field{rec(1), nil, rec("x"), rec(1<<62, "", 0), recOf(300), recOf(149), rec(textOf(4096)), rec(0)}
	b.want("empty")
	for _, table := range []int{1, 7} {
		for i, k := range mixed(keys) {
			b.get("not there yet", table, k)
			b.drop(table, k)
			b.put(table, k, recs[i%len(recs)])
			b.get("put", table, k)
			b.put(table, k, recs[i%len(recs)])
			b.get("put again", table, k)
		}
	}
	b.want("put")
	b = paired(t, s, b.commit())
	b.want("committed")
	for i, k := range mixed(keys) {
		for n := range 3 {
			b.put(1, k, recs[(i+n*3)%len(recs)])
			b.get("put again", 1, k)
			b.get("beside it", 7, k)
		}
	}
	b.want("put again")
	b = paired(t, s, b.commit())
	for _, k := range mixed(keys) {
		for range 2 {
			b.drop(1, k)
			b.get("deleted", 1, k)
			b.get("beside it", 7, k)
		}
	}
	b.want("deleted")
	if n := b.scan("deleted", 1, nil) + b.scan("the others", 7, nil); n != len(keys) {
		t.Errorf("%d rows are left", n)
	}
	b = paired(t, s, b.commit())
	b.want("committed again")
}

// P14.2: Scan of no parts, of a whole key, of parts that no key begins with, of parts that are the beginning of others, of a table without rows; numbers and texts, in the order of the keys.
func TestScan(t *testing.T) {
	b := paired(t, made(t, 120), nil)
	b.scan("a table without rows", 5, nil)
	b.scan("a table without rows", 5, key("a"))
	keys := [][]api.Part{nil, key(math.MinInt), key(-256), key(-1), key(-1, "a"), key(0), key(0, -5), key(0, 5), key(0, ""), key(1), key(255), key(256), key(1 << 32), key(math.MaxInt), key(""), key("", ""), key("", "", 3), key("\x00"), key("\x00\x01"), key("\x00\xff"), key("\x00\xff", 1), key("\x01"), key("a"), key("a", -1), key("a", 1), key("a", "a"), key("a", "a", 1), key("a", "b"), key("a\x00"), key("a\x00", 2), key("a\x00b"), key("aa"), key("ab", 1), key("b"), key("\xff"), key("\xff", "\xff"), key("\xff\xff")}
	for i, k := range mixed(keys) {
		b.put(5, k, rec(i, textOf(i*9)))
	}
	b.want("all")
	for _, c := range []struct {
		prefix []api.Part
		want   int
	}{
		{nil, len(keys)}, {key(), len(keys)},
		{key(0), 4}, {key(-1), 2}, {key(""), 3}, {key("", ""), 2}, {key("a"), 6}, {key("a", "a"), 2}, {key("a\x00"), 2}, {key("\x00\xff"), 2}, {key("\x00"), 1}, {key("\xff"), 2}, {key("\xff\xff"), 1},
		{key("a", "a", 1), 1}, {key(math.MinInt), 1}, {key(math.MaxInt), 1},
		{key(2), 0}, {key("ab"), 1}, {key("abc"), 0}, {key("a", 2), 0}, {key("a", "a", 1, 1), 0}, {key("a", ""), 0}, {key("c"), 0}, {key("ab", 2), 0}, {key(strings.Repeat("\xff", 120)), 0},
		{times(15, text("")), 0}, {times(14, num(0)), 0},
	} {
		if n := b.scan("Scan", 5, c.prefix); n != c.want {
			t.Errorf("Scan(%v): %d rows, want %d", c.prefix, n, c.want)
		}
		b.scan("a table beside it", 4, c.prefix)
		b.scan("a table beside it", 6, c.prefix)
	}
	rows, _ := b.a.Scan(5, nil)
	for i, r := range rows {
		if !slices.Equal(r.Key, keys[i]) {
			t.Errorf("row %d: %v, want %v", i, r.Key, keys[i])
		}
	}
}

// P14.4: tables whose numbers are neighbours, or whose bytes are alike, with the same keys: what is done to one is done to it alone.
func TestTablesKnowNothingOfOneAnother(t *testing.T) {
	s := made(t, 120)
	tables := []int{0, 1, 2, 254, 255, 256, 257, 1 << 16, 1<<31 - 2, 1<<31 - 1}
	keys := [][]api.Part{nil, key(0), key(1), key("a"), key("a", 255), key(256), key(1<<31 - 1)}
	b := paired(t, s, nil)
	for i, table := range mixed(tables) {
		for k, x := range mixed(keys) {
			b.put(table, x, rec(i, k))
		}
	}
	b.want("put")
	b = paired(t, s, b.commit())
	for i, table := range mixed(tables) {
		for _, x := range keys[i%2:] {
			b.drop(table, x)
		}
		if n := b.scan("emptied", table, nil); n != i%2 {
			t.Errorf("table %d has %d rows", table, n)
		}
		b.want("a table less")
		b.put(table, key("new"), rec(i))
		b.want("another row")
	}
	b.commit()
}

// P14.2: the tree at root 0 has just the bytes that the chapter's words tell, and what another one has put into it is told as rows.
func TestBytes(t *testing.T) {
	const log = 300
	d := aDisk(t, log+8*20)
	b := paired(t, opened(t, d, log), nil)
	b.put(1, key("a", -2), []api.Field{{Tag: 1, N: 300}, {Tag: 2, Kind: api.FdText, S: "ab"}})
	b.put(2, nil, nil)
	b.put(maxTable, key("\x00"), rec(0))
	b.commit()
	want := []api.Entry{
		{Key: "\x10\x80\x00\x00\x00\x00\x00\x00\x01\x20a\x00\x01\x10\x7f\xff\xff\xff\xff\xff\xff\xfe", Val: "\x02\xac\x02\x05\x02ab"},
		{Key: "\x10\x80\x00\x00\x00\x00\x00\x00\x02", Val: ""},
		{Key: "\x10\x80\x00\x00\x00\x7f\xff\xff\xff\x20\x00\xff\x00\x01", Val: "\x02\x00"},
	}
	if got := entriesOf(t, d, log); !slices.Equal(got, want) {
		t.Errorf("the tree has %q, want %q", got, want)
	}
	other := aDisk(t, log+8*20)
	laid(t, other, log, want...)
	c := paired(t, opened(t, other, log), b.has)
	c.want("laid by another one")
	c.drop(2, nil)
	c.put(1, key("a", -2), nil)
	c.want("changed")
}

// P14.3: Commit and Abort, of a transaction that has changed something and of one that has not; what was aborted is not there.
func TestCommitAndAbort(t *testing.T) {
	const log = 300
	d := aDisk(t, log+8*30)
	s := opened(t, d, log)
	var has plain
	for i := range 24 {
		done := d.Done()
		b := paired(t, s, has)
		b.want("begun")
		switch i % 4 {
		case 0:
			b.put(1, key(i), rec(i, textOf(i*20)))
			b.put(1, key("a"), rec(i))
			has = b.commit()
		case 1:
			b.put(1, key(i), rec(i))
			b.drop(1, key(i-1))
			b.drop(1, key("a"))
			b.want("ahead of Abort")
			b.a.Abort()
		case 2:
			wantE(t, "Commit of nothing", b.a.Commit(), api.OK)
		case 3:
			b.a.Abort()
		}
		if wrote := d.Done() > done; wrote != (i%4 == 0) {
			t.Errorf("turn %d: the disk was written: %v", i, wrote)
		}
		wantEnded(t, "ended", b.a)
		wantStored(t, i, d, log, s, has)
		c := paired(t, opened(t, copyOf(t, d), log), has)
		c.want("opened anew")
	}
}

// P14.2, P14.4: any calls, in any order, with Commit and Abort now and then, tell what the sorted list tells.
func TestAnyCalls(t *testing.T) {
	for seed := range uint64(5) {
		row := fixedRow(seed)
		d := aDisk(t, madeLog+8*400)
		s := opened(t, d, madeLog)
		var has plain
		pick := func() []api.Part {
			parts := []api.Part{num(row.IntN(3) - 1), text(strings.Repeat("a", row.IntN(3))), text(strings.Repeat("\x00", row.IntN(2)*40)), num(row.IntN(2) << 40)}
			row.Shuffle(4, func(i, k int) { parts[i], parts[k] = parts[k], parts[i] })
			return parts[:row.IntN(4)]
		}
		for range 25 {
			b := paired(t, s, has)
			for range 1 + row.IntN(20) {
				table := row.IntN(3)
				switch row.IntN(6) {
				case 0, 1, 2:
					b.put(table, pick(), recOf([]int{0, 2, 9, 150, 700, 5000}[row.IntN(6)]))
				case 3:
					b.drop(table, pick())
				case 4:
					b.get(seed, table, pick())
				case 5:
					b.scan(seed, table, pick())
				}
			}
			b.want(seed)
			if row.IntN(4) == 0 {
				b.a.Abort()
			} else {
				has = b.commit()
			}
		}
		wantStored(t, seed, d, madeLog, s, has)
	}
}

// Rule 5: what is handed in is neither changed nor kept, what lies behind a list's length stays; what is handed out is new memory.
func TestListsAreNotShared(t *testing.T) {
	a := begun(t, made(t, 30))
	parts := append(key("a", 1), text("behind"), num(7))[:2]
	fields := append(rec(1, "x"), api.Field{Tag: 5, N: 9})[:2]
	wantE(t, "Put", a.Put(1, parts, fields), api.OK)
	_, _, e := a.Get(1, parts)
	wantE(t, "Get", e, api.OK)
	_, e = a.Scan(1, parts[:1])
	wantE(t, "Scan", e, api.OK)
	if !slices.Equal(parts[:4], []api.Part{text("a"), num(1), text("behind"), num(7)}) {
		t.Errorf("the key was changed: %v", parts[:4])
	}
	if !slices.Equal(fields[:3], append(rec(1, "x"), api.Field{Tag: 5, N: 9})) {
		t.Errorf("the record was changed: %v", fields[:3])
	}
	clear(parts[:4])
	clear(fields[:3])
	for range 3 {
		got, there, e := a.Get(1, key("a", 1))
		if !there || e != api.OK || !slices.Equal(got, rec(1, "x")) {
			t.Fatalf("Get: %v, %v, %d", got, there, e)
		}
		rows, e := a.Scan(1, nil)
		if e != api.OK || !sameRows(rows, []api.Row{{Key: key("a", 1), Rec: rec(1, "x")}}) {
			t.Fatalf("Scan: %v, %d", rows, e)
		}
		clear(got)
		clear(rows[0].Key)
		clear(rows[0].Rec)
		clear(rows)
	}
}

// P14.2: records of each length about the room of a cell, of pages, and of MaxVal.
func TestRecordsOfEachLength(t *testing.T) {
	s := made(t, 60)
	var has plain
	for _, size := range []int{0, 2, 3, 120, 127, 128, 129, 130, 131, 138, 139, 140, 141, 142, 495, 496, 497, 992, 993, 4099, 1<<14 - 1, 1 << 14} {
		b := paired(t, s, has)
		b.put(1, key("a"), recOf(size))
		b.want(size)
		has = b.commit()
		b = paired(t, s, has)
		b.want(size)
		b.a.Abort()
	}
}
