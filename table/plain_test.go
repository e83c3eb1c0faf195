package table

import (
	"fmt"
	"math"
	"math/rand/v2"
	"reflect"
	"slices"
	"strings"
	"testing"

	"aquifer/api"
	"aquifer/btree"
	"aquifer/cursor"
	"aquifer/field"
	"aquifer/pagedb"
	"aquifer/sector"
)

// What the document says of a store, told of a sorted list: all tests hold the program against this.

// plainRow is a row, and its table.
type plainRow struct {
	table int
	key   []api.Part
	rec   []api.Field
}

// plain is what a store has: rows, by their tables, and in the order of their keys.
type plain []plainRow

// orderParts tells whether a key is ahead of another one (-1), the same (0) or behind it (1): a number is ahead of a text, a key that ends ahead of one that goes on.
func orderParts(a, b []api.Part) int {
	for i := 0; ; i++ {
		switch {
		case i == len(a) && i == len(b):
			return 0
		case i == len(a):
			return -1
		case i == len(b):
			return 1
		}
		p, q := a[i], b[i]
		switch {
		case p == q:
			continue
		case p.Kind != q.Kind && p.Kind == api.PtNum, p.Kind == q.Kind && p.Kind == api.PtNum && p.N < q.N, p.Kind == q.Kind && p.Kind == api.PtText && p.S < q.S:
			return -1
		}
		return 1
	}
}

// find tells the place of a row, or where it would stand, and whether it is there.
func (p plain) find(table int, key []api.Part) (int, bool) {
	for i, r := range p {
		switch c := orderParts(r.key, key); {
		case r.table == table && c == 0:
			return i, true
		case r.table > table, r.table == table && c > 0:
			return i, false
		}
	}
	return len(p), false
}

// with tells the rows with another one, or with another record of one.
func (p plain) with(r plainRow) plain {
	i, there := p.find(r.table, r.key)
	if there {
		p = slices.Delete(slices.Clone(p), i, i+1)
	}
	return slices.Insert(slices.Clone(p), i, r)
}

// without tells the rows without one.
func (p plain) without(table int, key []api.Part) plain {
	i, there := p.find(table, key)
	if !there {
		return p
	}
	return slices.Delete(slices.Clone(p), i, i+1)
}

// scan tells the rows of a table whose keys begin with prefix.
func (p plain) scan(table int, prefix []api.Part) []api.Row {
	var rows []api.Row
	for _, r := range p {
		if r.table == table && len(r.key) >= len(prefix) && orderParts(r.key[:len(prefix)], prefix) == 0 {
			rows = append(rows, api.Row{Key: r.key, Rec: r.rec})
		}
	}
	return rows
}

// plainKey tells the bytes of a key in a table, by the words of the chapter about keys.
func plainKey(table int, key ...api.Part) string {
	b := numberBytes(table)
	for _, p := range key {
		if p.Kind == api.PtNum {
			b += numberBytes(p.N)
		} else {
			b += "\x20" + strings.ReplaceAll(p.S, "\x00", "\x00\xff") + "\x00\x01"
		}
	}
	return b
}

// numberBytes tells a number's bytes in a key.
func numberBytes(n int) string {
	b := []byte{0x10}
	for shift := 56; shift >= 0; shift -= 8 {
		b = append(b, byte(n>>shift))
	}
	b[1] ^= 0x80
	return string(b)
}

// num, text and key tell parts of keys, and keys: of numbers and texts.
func num(n int) api.Part     { return api.Part{Kind: api.PtNum, N: n} }
func text(s string) api.Part { return api.Part{Kind: api.PtText, S: s} }

func key(parts ...any) []api.Part {
	l := []api.Part{}
	for _, p := range parts {
		switch v := p.(type) {
		case int:
			l = append(l, num(v))
		case string:
			l = append(l, text(v))
		}
	}
	return l
}

// rec tells a record of numbers and texts, with tags from 1 on.
func rec(fields ...any) []api.Field {
	l := []api.Field{}
	for i, f := range fields {
		switch v := f.(type) {
		case int:
			l = append(l, api.Field{Tag: i + 1, Kind: api.FdNum, N: v})
		case string:
			l = append(l, api.Field{Tag: i + 1, Kind: api.FdText, S: v})
		}
	}
	return l
}

// recOf tells a record of texts that has so many bytes: not 1, which no record has.
func recOf(size int) []api.Field {
	var l []api.Field
	for size > 0 {
		n := min(size, 4099)
		if size-n == 1 {
			n--
		}
		if n == 130 {
			n = 128
		}
		l = append(l, api.Field{Tag: 9, Kind: api.FdText, S: textOf(n - textExtra(n))})
		size -= n
	}
	return l
}

// textExtra tells how many bytes a text's field of so many has beside the text: its tag, and how long it is.
func textExtra(size int) int {
	if size <= 2+127 {
		return 2
	}
	return 3
}

// textOf tells n bytes that are not alike.
func textOf(n int) string {
	b := make([]byte, n)
	for i := range b {
		b[i] = byte(i*7 + i/64 + n)
	}
	return string(b)
}

// sameRec tells whether two records are alike; one of no field is as one that is nil.
func sameRec(a, b []api.Field) bool { return slices.Equal(a, b) }

// sameRows tells whether two lists of rows are alike.
func sameRows(a, b []api.Row) bool {
	return slices.EqualFunc(a, b, func(x, y api.Row) bool { return slices.Equal(x.Key, y.Key) && sameRec(x.Rec, y.Rec) })
}

// show tells something, shortened.
func show(x any) string { return fmt.Sprintf("%.300s", fmt.Sprintf("%v", x)) }

// pair is a transaction, and what it sees told beside it: what is done to the one is done to the other.
type pair struct {
	t   *testing.T
	a   *Txn
	has plain
}

// paired tells both, of a transaction that begins where the store has that.
func paired(t *testing.T, s *Store, has plain) *pair {
	t.Helper()
	return &pair{t, begun(t, s), has}
}

func (b *pair) put(table int, key []api.Part, rec []api.Field) {
	b.t.Helper()
	if e := b.a.Put(table, key, rec); e != api.OK {
		b.t.Fatalf("Put(%d, %s, %s): %d", table, show(key), show(rec), e)
	}
	b.has = b.has.with(plainRow{table, key, rec})
}

func (b *pair) drop(table int, key []api.Part) {
	b.t.Helper()
	_, was := b.has.find(table, key)
	if there, e := b.a.Delete(table, key); there != was || e != api.OK {
		b.t.Fatalf("Delete(%d, %s): %v, %d; want %v", table, show(key), there, e, was)
	}
	b.has = b.has.without(table, key)
}

func (b *pair) commit() plain {
	b.t.Helper()
	if e := b.a.Commit(); e != api.OK {
		b.t.Fatalf("Commit: %d", e)
	}
	return b.has
}

// get fails, if Get of a key tells otherwise than the plain rows do.
func (b *pair) get(what any, table int, key []api.Part) {
	b.t.Helper()
	got, there, e := b.a.Get(table, key)
	i, is := b.has.find(table, key)
	var want []api.Field
	if is {
		want = b.has[i].rec
	}
	if there != is || e != api.OK || !sameRec(got, want) {
		b.t.Fatalf("%v: Get(%d, %s): %s, %v, %d; want %s, %v", what, table, show(key), show(got), there, e, show(want), is)
	}
}

// scan fails, if Scan tells otherwise than the plain rows do, and tells how many rows there were.
func (b *pair) scan(what any, table int, prefix []api.Part) int {
	b.t.Helper()
	got, e := b.a.Scan(table, prefix)
	want := b.has.scan(table, prefix)
	if e != api.OK || !sameRows(got, want) {
		b.t.Fatalf("%v: Scan(%d, %s): %s, %d; want %s", what, table, show(prefix), show(got), e, show(want))
	}
	return len(got)
}

// want fails, if the transaction does not see just these rows: each of them, each beginning of their keys, and what stands beside them.
func (b *pair) want(what any) {
	b.t.Helper()
	scanned := map[string]bool{}
	scan := func(table int, prefix []api.Part) {
		b.t.Helper()
		if code := plainKey(table, prefix...); !scanned[code] {
			scanned[code] = true
			b.scan(what, table, prefix)
		}
	}
	for _, table := range []int{0, 1, maxTable} {
		scan(table, nil)
		b.get(what, table, nil)
	}
	for _, r := range b.has {
		for table := max(r.table-1, 0); table <= min(r.table+1, maxTable); table++ {
			scan(table, nil)
			b.get(what, table, r.key)
		}
		if longer := append(slices.Clone(r.key), num(0)); len(longer) < 16 && len(plainKey(r.table, longer...)) <= 140 {
			b.get(what, r.table, longer)
		}
		for n := range len(r.key) + 1 {
			scan(r.table, r.key[:n])
		}
	}
}

// wantNothing fails, if a call of a transaction does not tell that error, with nothing.
func wantNothing(t *testing.T, what any, a *Txn, table int, key []api.Part, err api.Errno) {
	t.Helper()
	if rec, there, e := a.Get(table, key); len(rec) != 0 || there || e != err {
		t.Errorf("%v: Get: %s, %v, %d; want %d", what, show(rec), there, e, err)
	}
	wantE(t, fmt.Sprint(what, ": Put"), a.Put(table, key, rec(1)), err)
	if there, e := a.Delete(table, key); there || e != err {
		t.Errorf("%v: Delete: %v, %d; want %d", what, there, e, err)
	}
	if rows, e := a.Scan(table, key); len(rows) != 0 || e != err {
		t.Errorf("%v: Scan: %s, %d; want %d", what, show(rows), e, err)
	}
}

// wantEnded fails, if a transaction that is none, or has ended, tells anything but ErrNil.
func wantEnded(t *testing.T, what any, a *Txn) {
	t.Helper()
	for range 2 {
		for _, table := range []int{1, -1, math.MaxInt} {
			for _, k := range [][]api.Part{nil, key("a"), make([]api.Part, 17), {{Kind: 3}}} {
				wantNothing(t, what, a, table, k, api.ErrNil)
				wantE(t, fmt.Sprint(what, ": Put of no record"), a.Put(table, k, []api.Field{{}}), api.ErrNil)
			}
		}
		wantE(t, fmt.Sprint(what, ": Commit"), a.Commit(), api.ErrNil)
		a.Abort()
	}
}

// wantStored fails, if a disk has another tree than that of these rows at root 0, or pages beside it, or if the store tells another number of pages than that.
func wantStored(t *testing.T, what any, d *sector.Disk, log int, s *Store, has plain) {
	t.Helper()
	tx := based(t, copyOf(t, d), log)
	there := 0
	for id := 1; ; id++ {
		_, _, e := tx.Read(id)
		if e == api.ErrArg {
			break
		}
		if e == api.OK {
			there++
		}
	}
	count := (d.Size() - log) / 8
	if used, all := s.Pages(); used != there || all != count {
		t.Errorf("%v: Pages: %d, %d; want %d, %d", what, used, all, there, count)
	}
	tree := btree.Of(tx, 0)
	if n, e := tree.Pages(); n != there || e != api.OK {
		t.Errorf("%v: %d pages are there, the tree has %d, error %d", what, there, n, e)
	}
	for i := 1; i < 4; i++ {
		if tx.Root(i) != 0 {
			t.Errorf("%v: root %d is %d", what, i, tx.Root(i))
		}
	}
	entries, e := cursor.All(tree, "", "")
	if e != api.OK || len(entries) != len(has) {
		t.Fatalf("%v: the tree has %d entries, error %d; want %d", what, len(entries), e, len(has))
	}
	for i, r := range has {
		if entries[i].Key != plainKey(r.table, r.key...) {
			t.Errorf("%v: entry %d has the key %q, want %d, %s", what, i, entries[i].Key, r.table, show(r.key))
		}
	}
}

// based tells a transaction of the database that a disk has: the store's own means are not asked.
func based(t *testing.T, d *sector.Disk, log int) *pagedb.Tx {
	t.Helper()
	db, e := pagedb.Open(d, log)
	wantE(t, "pagedb's Open", e, api.OK)
	tx, e := db.Begin()
	wantE(t, "pagedb's Begin", e, api.OK)
	return tx
}

// laid puts entries into the tree at root 0 of a disk's database.
func laid(t *testing.T, d *sector.Disk, log int, entries ...api.Entry) {
	t.Helper()
	tx := based(t, d, log)
	tree := btree.Of(tx, 0)
	for _, x := range entries {
		wantE(t, "the tree's Put", tree.Put(x.Key, x.Val), api.OK)
	}
	wantE(t, "pagedb's Commit", tx.Commit(), api.OK)
}

// entriesOf tells the entries of the tree at root 0 of a disk's database.
func entriesOf(t *testing.T, d *sector.Disk, log int) []api.Entry {
	t.Helper()
	all, e := cursor.All(btree.Of(based(t, copyOf(t, d), log), 0), "", "")
	wantE(t, "the tree's entries", e, api.OK)
	return all
}

// aDisk tells a disk that has power.
func aDisk(t *testing.T, n int) *sector.Disk {
	t.Helper()
	d, e := sector.New(n)
	if e != api.OK {
		t.Fatalf("a disk of %d sectors: %d", n, e)
	}
	return d
}

// image tells what all sectors of a disk have.
func image(t *testing.T, d *sector.Disk) []string {
	t.Helper()
	all := make([]string, d.Size())
	for i := range all {
		s, e := d.Read(i)
		wantE(t, "the disk's Read", e, api.OK)
		all[i] = s
	}
	return all
}

// diskOf tells a disk that has that.
func diskOf(t *testing.T, image []string) *sector.Disk {
	t.Helper()
	d := aDisk(t, len(image))
	for i, s := range image {
		wantE(t, "the disk's Write", d.Write(i, s), api.OK)
	}
	wantE(t, "the disk's Flush", d.Flush(), api.OK)
	return d
}

func copyOf(t *testing.T, d *sector.Disk) *sector.Disk {
	t.Helper()
	return diskOf(t, image(t, d))
}

// opened tells the store that a disk has.
func opened(t *testing.T, d *sector.Disk, log int) *Store {
	t.Helper()
	s, e := Open(d, log)
	if e != api.OK || s == nil {
		t.Fatalf("Open: %v, %d", s, e)
	}
	return s
}

// madeLog is a log that has room for any transaction.
const madeLog = 1100

// made tells a store on a new disk, with room for so many pages, page 0 among them.
func made(t *testing.T, count int) *Store {
	t.Helper()
	return opened(t, aDisk(t, madeLog+8*count), madeLog)
}

// begun tells a transaction.
func begun(t *testing.T, s *Store) *Txn {
	t.Helper()
	a, e := s.Begin()
	if e != api.OK || a == nil {
		t.Fatalf("Begin: %v, %d", a, e)
	}
	return a
}

// wantE fails, if a call told another error.
func wantE(t *testing.T, what any, got, want api.Errno) {
	t.Helper()
	if got != want {
		t.Errorf("%v: error %d, want %d", what, got, want)
	}
}

// wantNoTxn fails, if Begin tells another error than that, or a transaction.
func wantNoTxn(t *testing.T, what any, s *Store, err api.Errno) {
	t.Helper()
	if a, e := s.Begin(); a != nil || e != err {
		t.Errorf("%v: Begin: %v, %d; want %d", what, a, e, err)
	}
}

// wantPages fails, if a store tells other numbers of pages.
func wantPages(t *testing.T, what any, s *Store, used, count int) {
	t.Helper()
	if u, c := s.Pages(); u != used || c != count {
		t.Errorf("%v: Pages: %d, %d; want %d, %d", what, u, c, used, count)
	}
}

// fixedRow tells numbers that are the same in each run.
func fixedRow(n uint64) *rand.Rand {
	return rand.New(rand.NewPCG(n, 14))
}

// mixed tells the keys in an order that is the same in each run.
func mixed[T any](l []T) []T {
	l = slices.Clone(l)
	fixedRow(uint64(len(l))).Shuffle(len(l), func(i, k int) { l[i], l[k] = l[k], l[i] })
	return l
}

// The plain rows are in the order of the keys, and recOf tells records of each size.
func TestPlain(t *testing.T) {
	rising := [][]api.Part{{}, key(math.MinInt), key(-1), key(-1, "a"), key(0), key(0, -5), key(0, 5), key(0, ""), key(7), key(math.MaxInt), key(""), key("", ""), key("\x00"), key("\x00\xff"), key("\x00\xff", 1), key("\x01"), key("a"), key("a", 1), key("a", "a"), key("aa"), key("b"), key("\xff")}
	var p plain
	for _, k := range mixed(rising) {
		for _, table := range []int{3, 1, 2} {
			p = p.with(plainRow{table, k, nil})
		}
	}
	for i, r := range p {
		if r.table != 1+i/len(rising) || !slices.Equal(r.key, rising[i%len(rising)]) {
			t.Errorf("%d: %d, %v", i, r.table, r.key)
		}
		if at, there := p.find(r.table, r.key); at != i || !there {
			t.Errorf("%d: found at %d, %v", i, at, there)
		}
	}
	if !slices.IsSortedFunc(p, func(a, b plainRow) int {
		return strings.Compare(plainKey(a.table, a.key...), plainKey(b.table, b.key...))
	}) {
		t.Error("the bytes of keys are not in the order of the keys")
	}
	if rows := p.scan(2, key(0)); !reflect.DeepEqual(rows, []api.Row{{Key: key(0)}, {Key: key(0, -5)}, {Key: key(0, 5)}, {Key: key(0, "")}}) {
		t.Errorf("scan: %v", rows)
	}
	if q := p.without(2, key(0)); len(q) != len(p)-1 || len(q.scan(2, key(0))) != 3 {
		t.Error("without")
	}
	for _, size := range []int{0, 2, 3, 129, 130, 131, 132, 4099, 4100, 4101, 4229, 1 << 14, 1<<14 + 1, 1 << 16, 1<<16 + 1} {
		if s, e := field.Encode(recOf(size)); len(s) != size && size <= 1<<16 || (e == api.OK) != (size <= 1<<16) {
			t.Errorf("a record of %d bytes has %d, error %d", size, len(s), e)
		}
	}
}
