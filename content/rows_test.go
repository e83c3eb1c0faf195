package content

import (
	"fmt"
	"math"
	"slices"
	"testing"

	"aquifer/api"
	"aquifer/btree"
	"aquifer/pagedb"
	"aquifer/sector"
	"aquifer/table"
)

// P16.1 to P16.3: the two tables have just the rows that the chapter's words tell, and what another one has put there is told.
func TestRows(t *testing.T) {
	s := made(t, 60)
	a := begun(t, s)
	wantID(t, "Put", a, putting(65), 1, api.OK)
	wantID(t, "New", a, New, 2, api.OK)
	wantE(t, "Set", Set(a, 2, 63, "x"), api.OK)
	wantID(t, "Put", a, putting(0), 3, api.OK)
	want := map[int][]api.Row{
		1: {{Key: parts(1), Rec: num(1, 3)}},
		2: {{Key: parts(1, 0), Rec: text(1, textOf(65)[:64])}, {Key: parts(1, 1), Rec: text(1, textOf(65)[64:])}, {Key: parts(2, 63), Rec: text(1, "x")}},
	}
	wantRows(t, "put", a, want)
	wantE(t, "Drop", Drop(a, 1), api.OK)
	want[2] = want[2][2:]
	wantRows(t, "dropped", a, want)
	b := paired(t, made(t, 60), plain{last: 7})
	numbered(t, b.a, 7)
	for _, i := range []int{63, 0, 5} {
		b.p = b.p.with(7, i, textOf(i+1))
		wantE(t, "the row", b.a.Put(2, parts(7, i), text(1, textOf(i+1))), api.OK)
	}
	b.want("of another one")
}

// wantRows fails, if a table from 0 to 9 has other rows.
func wantRows(t *testing.T, what string, a *table.Txn, want map[int][]api.Row) {
	t.Helper()
	for tab := range 10 {
		rows, e := a.Scan(tab, nil)
		if e != api.OK || !slices.EqualFunc(rows, want[tab], func(x, y api.Row) bool { return slices.Equal(x.Key, y.Key) && slices.Equal(x.Rec, y.Rec) }) {
			t.Errorf("%s: table %d: %.300q, %d; want %.300q", what, tab, fmt.Sprint(rows), e, fmt.Sprint(want[tab]))
		}
	}
}

// P16.1: a record without a number in the field 1 tells that none was given; one with a number beside other fields tells that one; other rows tell nothing.
func TestRowsOfNumbers(t *testing.T) {
	for i, c := range []struct {
		rec  []api.Field
		last int
	}{
		{nil, 0},
		{num(1, 0), 0},
		{num(1, 5), 5},
		{num(2, 5), 0},
		{text(1, "5"), 0},
		{append(text(1, "x"), num(1, 6)...), 6},
		{append(append(num(1, 3), num(1, 9)...), text(2, "x")...), 3},
		{num(1, 1<<40), 1 << 40},
		{num(1, 1<<40+1), 1<<40 + 1},
		{num(1, 1<<62), 1 << 62},
	} {
		b := paired(t, made(t, 20), plain{last: c.last})
		what := fmt.Sprint("record ", i)
		for _, k := range [][]api.Part{nil, parts(0), parts(2), parts("1"), parts(1, 1), parts(1, "a"), parts("a", 1)} {
			wantE(t, what, b.a.Put(1, k, num(1, 77)), api.OK)
		}
		wantE(t, what, b.a.Put(1, parts(1), c.rec), api.OK)
		b.want(what)
		if c.last >= 1<<40 {
			wantID(t, what+": New", b.a, New, 0, api.ErrFull)
			wantID(t, what+": Put", b.a, putting(1), 0, api.ErrFull)
		} else {
			b.new()
			b.put("x")
		}
		b.want(what + ", gone on")
	}
}

// noChunks tells records that no chunk has.
func noChunks() [][]api.Field {
	return [][]api.Field{
		nil, num(1, 5), text(1, ""), text(1, textOf(65)), text(1, textOf(4096)), text(2, "x"), append(text(1, ""), text(1, "x")...),
	}
}

// P16.2, P16.3: a record that is no chunk's stands where a chunk may be: none is there, till one is set.
func TestRowsOfNoChunks(t *testing.T) {
	for n, rec := range noChunks() {
		what := fmt.Sprint("record ", n)
		b := paired(t, made(t, 60), plain{})
		b.put(textOf(200))
		b.new()
		for _, at := range []place{{1, 1}, {1, 63}, {2, 0}} {
			b.p = b.p.with(at.id, at.i, "")
			wantE(t, what, b.a.Put(2, parts(at.id, at.i), rec), api.OK)
		}
		b.want(what)
		b.set(1, 1, textOf(200)[64:128])
		b.set(2, 0, "x")
		b.want(what + ", set again")
		b.drop(1)
		b.want(what + ", dropped")
		if rows, e := b.a.Scan(2, parts(1)); len(rows) != 0 || e != api.OK {
			t.Errorf("%s: rows are left: %v, %d", what, rows, e)
		}
	}
	b := paired(t, made(t, 60), plain{})
	b.new()
	b.p = b.p.with(1, 0, "x")
	wantE(t, "fields beside the chunk", b.a.Put(2, parts(1, 0), append(append(num(1, 3), text(1, "x")...), text(2, "y")...)), api.OK)
	b.want("fields beside the chunk")
}

// P16.2, P16.3: rows whose keys are no chunk's, and chunks of numbers that were not given, are told by no call.
func TestRowsOfNoPlaces(t *testing.T) {
	b := paired(t, made(t, 60), plain{})
	b.put(textOf(100))
	b.new()
	for _, k := range [][]api.Part{
		nil, parts(1), parts(1, -1), parts(1, 64), parts(1, math.MinInt), parts(1, math.MaxInt), parts(1, "a"), parts(1, ""), parts(1, 0, 0), parts(1, 5, 6), parts(1, 5, "a"),
		parts("a"), parts("a", 0), parts("", 1), parts(0, 0), parts(-1, 0), parts(math.MinInt, 3), parts(3, 0), parts(3, 5), parts(1<<40, 0), parts(math.MaxInt, 63),
	} {
		wantE(t, "the row", b.a.Put(2, k, text(1, "stray")), api.OK)
		b.want(fmt.Sprint("a row at ", k))
	}
	b.set(1, 5, "x")
	b.set(2, 0, "y")
	b.drop(1)
	b.want("set and dropped")
}

// P16.4: what stands in the two tables is no record: the table's error, with nothing, and what stands beside it is told.
func TestNoRecords(t *testing.T) {
	for _, val := range []string{"\x00", "x", "\x02", "\x05\x02a"} {
		d := aDisk(t, madeLog+8*60)
		what := fmt.Sprintf("%q", val)
		b := paired(t, opened(t, d), plain{})
		b.put(textOf(200))
		b.put(textOf(100))
		b.commit()
		laid(t, d, "\x10\x80\x00\x00\x00\x00\x00\x00\x02\x10\x80\x00\x00\x00\x00\x00\x00\x01\x10\x80\x00\x00\x00\x00\x00\x00\x02", val)
		b = paired(t, opened(t, d), b.p)
		b.wantContent(what, 2)
		if s, there, e := Get(b.a, 1, 2); s != "" || there || e != api.ErrForm {
			t.Errorf("%s: Get: %q, %v, %d", what, s, there, e)
		}
		if s, there, e := Get(b.a, 1, 1); s != textOf(200)[64:128] || !there || e != api.OK {
			t.Errorf("%s: Get: %q, %v, %d", what, s, there, e)
		}
		if l, e := Have(b.a, 1); len(l) != 0 || e != api.ErrForm {
			t.Errorf("%s: Have: %v, %d", what, l, e)
		}
		wantSizeRefused(t, what, b.a, 1, 200, api.ErrForm)
		wantID(t, what, b.a, Bytes, 0, api.ErrForm)
		wantE(t, what, Drop(b.a, 1), api.ErrForm)
		b.set(1, 2, textOf(3))
		b.want(what + ", set again")
		noRecordOfNumbers(t, val)
	}
}

// noRecordOfNumbers lets what tells the greatest number be no record: that is told behind the arguments' own errors.
func noRecordOfNumbers(t *testing.T, val string) {
	t.Helper()
	d := aDisk(t, madeLog+8*60)
	laid(t, d, "\x10\x80\x00\x00\x00\x00\x00\x00\x01\x10\x80\x00\x00\x00\x00\x00\x00\x01", val)
	a := begun(t, opened(t, d))
	for what, call := range map[string]func(a *table.Txn) (int, api.Errno){
		"Last": Last, "New": New, "Bytes": Bytes, "Put": putting(4096),
	} {
		wantID(t, what, a, call, 0, api.ErrForm)
	}
	wantID(t, "Put of too much", a, putting(4097), 0, api.ErrLong)
	wantE(t, "Set", Set(a, 1, 0, "x"), api.ErrForm)
	wantE(t, "Set of too much", Set(a, 1, 0, textOf(65)), api.ErrLong)
	wantE(t, "Set of nothing", Set(a, 1, 0, ""), api.ErrArg)
	wantRefused(t, "number 0", a, 0, 0, 0, api.ErrArg)
	wantPlaceRefused(t, "place 64", a, 1, 64, api.ErrArg)
	wantSizeRefused(t, "size 4097", a, 1, 4097, api.ErrArg)
	wantSizeRefused(t, "size 0", a, 1, 0, api.ErrForm)
	wantE(t, "Drop", Drop(a, 1), api.ErrForm)
	numbered(t, a, 4)
	b := &pair{t, a, plain{last: 4}}
	b.want("numbered again")
}

// laid puts an entry into the tree of a store, past the store's own means.
func laid(t *testing.T, d *sector.Disk, key, val string) {
	t.Helper()
	db, e := pagedb.Open(d, madeLog)
	wantE(t, "pagedb's Open", e, api.OK)
	tx, e := db.Begin()
	wantE(t, "pagedb's Begin", e, api.OK)
	wantE(t, "the tree's Put", btree.Of(tx, 0).Put(key, val), api.OK)
	wantE(t, "pagedb's Commit", tx.Commit(), api.OK)
}
