package pagedb

import (
	"encoding/binary"
	"fmt"
	"hash/crc32"
	"maps"
	"math/rand/v2"
	"reflect"
	"slices"
	"strings"
	"testing"

	"aquifer/api"
	"aquifer/sector"
)

// What the document says of a database, told without pages, a log or a disk: all tests hold the program against this.

// leaf is what a page has that is there.
type leaf struct {
	kind int
	body string
}

// plain is a database, or what a transaction sees of it.
type plain struct {
	count, high int
	free        []int // in the order in which they came free
	pages       map[int]leaf
	roots       [4]int
}

// fresh tells a database of so many pages to which nothing was done.
func fresh(count int) plain {
	return plain{count: count, high: 1, pages: map[int]leaf{}}
}

// with tells a copy to which something is done.
func (p plain) with(do ...func(*plainTx)) plain {
	a := p.begin()
	for _, f := range do {
		f(a)
	}
	return a.plain
}

// begin tells a transaction over it.
func (p plain) begin() *plainTx {
	p.free = slices.Clone(p.free)
	p.pages = maps.Clone(p.pages)
	return &plainTx{plain: p, touched: map[int]bool{}}
}

// plainTx is a transaction.
type plainTx struct {
	plain
	touched map[int]bool // by their numbers, 0 being the database's own
	spoilt  bool
}

// refuses tells the error of a call that is about a page.
func (a *plainTx) refuses(id int) api.Errno {
	switch {
	case id < 1 || id >= a.high:
		return api.ErrArg
	case slices.Contains(a.free, id):
		return api.ErrNone
	}
	return api.OK
}

func (a *plainTx) write(id, kind int, body string) api.Errno {
	e := a.refuses(id)
	switch {
	case e != api.OK:
		return e
	case kind < 1 || kind > 254:
		return api.ErrArg
	case len(body) > 500:
		return api.ErrLong
	}
	a.pages[id] = leaf{kind, body}
	a.touched[id] = true
	return api.OK
}

func (a *plainTx) alloc() (int, api.Errno) {
	id := a.high
	if n := len(a.free); n > 0 {
		id = a.free[n-1]
		a.free = a.free[:n-1]
	} else if a.high == a.count {
		return 0, api.ErrFull
	} else {
		a.high++
	}
	a.pages[id] = leaf{kind: 1}
	a.touched[id], a.touched[0] = true, true
	return id, api.OK
}

func (a *plainTx) drop(id int) api.Errno {
	if e := a.refuses(id); e != api.OK {
		return e
	}
	delete(a.pages, id)
	a.free = append(a.free, id)
	a.touched[id], a.touched[0] = true, true
	return api.OK
}

func (a *plainTx) setRoot(i, n int) api.Errno {
	if i < 0 || i > 3 || n < 0 || n > 1<<31-1 {
		return api.ErrArg
	}
	a.roots[i] = n
	a.touched[0] = true
	return api.OK
}

// commit tells what Commit tells behind a log of so many sectors, where the disk has power.
func (a *plainTx) commit(log int) api.Errno {
	k := len(a.touched)
	switch {
	case a.spoilt:
		return api.ErrState
	case 12+516*k > 64*(log-1) || 4+516*k > 65536:
		return api.ErrFull
	}
	return api.OK
}

// seen tells what a transaction sees, which has allocated nothing behind it.
func seen(t *testing.T, a *Tx, count, high int) plain {
	t.Helper()
	p := plain{count: count, high: high, pages: map[int]leaf{}}
	for id := 1; id < high; id++ {
		kind, body, e := a.Read(id)
		if e == api.OK {
			p.pages[id] = leaf{kind, body}
		} else if e != api.ErrNone || kind != 0 || body != "" {
			t.Errorf("Read(%d): %d, %.40q, error %d", id, kind, body, e)
		}
	}
	for i := range p.roots {
		p.roots[i] = a.Root(i)
	}
	return p
}

// found tells what a database tells. The free ones are told by allocating them, the last one first, in a transaction that comes to nothing.
func found(t *testing.T, x *DB) plain {
	t.Helper()
	a := begun(t, x)
	p := seen(t, a, x.Count(), x.High())
	p.free = freed(t, a, x.Free())
	wantE(t, "past the high mark", errorOf(a.Read(x.High())), api.ErrArg)
	a.Abort()
	return p
}

// freed allocates so many pages, and tells them in the order in which they came free.
func freed(t *testing.T, a *Tx, n int) []int {
	t.Helper()
	var ids []int
	for range n {
		id, e := a.Alloc()
		wantE(t, "Alloc of a free page", e, api.OK)
		ids = append(ids, id)
	}
	slices.Reverse(ids)
	return ids
}

// alike tells whether two are the same database.
func alike(p, q plain) bool {
	return p.count == q.count && p.high == q.high && slices.Equal(p.free, q.free) && maps.Equal(p.pages, q.pages) && p.roots == q.roots
}

// String tells a database as a failing test shows it.
func (p plain) String() string {
	var b strings.Builder
	fmt.Fprintf(&b, "count %d high %d free %v roots %v", p.count, p.high, p.free, p.roots)
	for _, id := range slices.Sorted(maps.Keys(p.pages)) {
		fmt.Fprintf(&b, " %d:%d:%.8q(%d)", id, p.pages[id].kind, p.pages[id].body, len(p.pages[id].body))
	}
	return b.String()
}

// wantIs fails, if a database is another one.
func wantIs(t *testing.T, what string, x *DB, want plain) {
	t.Helper()
	if got := found(t, x); !alike(got, want) {
		t.Errorf("%s:\ngot  %v\nwant %v", what, got, want)
	}
}

// wantSees fails, if an open transaction sees anything else.
func wantSees(t *testing.T, what string, a *Tx, want *plainTx) {
	t.Helper()
	got := seen(t, a, want.count, want.high)
	got.free = want.free // is told by what Alloc tells, which would change it
	if !alike(got, want.plain) || a.Changed() != len(want.touched) {
		t.Errorf("%s:\ngot  %v, changed %d\nwant %v, changed %d", what, got, a.Changed(), want.plain, len(want.touched))
	}
	wantE(t, what+": past the high mark", errorOf(a.Read(want.high)), api.ErrArg)
}

// wantE fails, if a call told another error.
func wantE(t *testing.T, what string, got, want api.Errno) {
	t.Helper()
	if got != want {
		t.Errorf("%s: error %d, want %d", what, got, want)
	}
}

// errorOf tells the error of Read, whose other results must be nothing then.
func errorOf(kind int, body string, e api.Errno) api.Errno {
	if e != api.OK && (kind != 0 || body != "") {
		panic(fmt.Sprintf("beside error %d: %d, %.40q", e, kind, body))
	}
	return e
}

// noPage tells the error of Alloc, whose number must be 0 then.
func noPage(id int, e api.Errno) api.Errno {
	if e != api.OK && id != 0 {
		panic(fmt.Sprintf("beside error %d: %d", e, id))
	}
	return e
}

// noTx tells the error of Begin, beside which there must be none.
func noTx(a *Tx, e api.Errno) api.Errno {
	if (e == api.OK) == (a == nil) {
		panic(fmt.Sprintf("beside error %d: %v", e, a))
	}
	return e
}

// aDisk tells a disk that has power.
func aDisk(t *testing.T, n int) *sector.Disk {
	t.Helper()
	d, e := sector.New(n)
	if e != api.OK {
		t.Fatalf("a disk of %d sectors: %d", n, e)
	}
	return d
}

// put writes texts to the sectors from one on, and flushes them.
func put(t *testing.T, d *sector.Disk, at int, texts ...string) {
	t.Helper()
	for i, s := range texts {
		wantE(t, "the disk's Write", d.Write(at+i, s), api.OK)
	}
	wantE(t, "the disk's Flush", d.Flush(), api.OK)
}

// all tells what all sectors of a disk have.
func all(t *testing.T, d *sector.Disk) []string {
	t.Helper()
	var texts []string
	for i := range d.Size() {
		s, e := d.Read(i)
		wantE(t, "the disk's Read", e, api.OK)
		texts = append(texts, s)
	}
	return texts
}

// diskOf tells a disk that has these sectors.
func diskOf(t *testing.T, sectors []string) *sector.Disk {
	t.Helper()
	d := aDisk(t, len(sectors))
	put(t, d, 0, sectors...)
	return d
}

// opened tells a database that Open is to tell.
func opened(t *testing.T, d *sector.Disk, log int) *DB {
	t.Helper()
	x, e := Open(d, log)
	if e != api.OK || x == nil {
		t.Fatalf("Open(%d): %v, %d", log, x, e)
	}
	return x
}

// refused fails, if Open tells anything but this error, or writes something.
func refused(t *testing.T, what string, d *sector.Disk, log int, want api.Errno) {
	t.Helper()
	done := d.Done()
	if x, e := Open(d, log); x != nil || e != want {
		t.Errorf("%s: Open(%d): %v, %d, want error %d", what, log, x, e, want)
	}
	if d.Done() != done {
		t.Errorf("%s: Open has written", what)
	}
}

// begun tells a transaction that Begin is to tell.
func begun(t *testing.T, x *DB) *Tx {
	t.Helper()
	a, e := x.Begin()
	if e != api.OK || a == nil {
		t.Fatalf("Begin: %v, %d", a, e)
	}
	return a
}

// made tells a database on a new disk, with room for so many pages.
func made(t *testing.T, log, count int) (*sector.Disk, *DB) {
	t.Helper()
	d := aDisk(t, log+8*count)
	return d, opened(t, d, log)
}

// pair is a transaction, and the plain one beside it: what is done to the one is done to the other, and must be answered alike.
type pair struct {
	t *testing.T
	a *Tx
	p *plainTx
}

// paired begins both.
func paired(t *testing.T, x *DB, p plain) pair {
	t.Helper()
	return pair{t, begun(t, x), p.begin()}
}

func (b pair) alloc() int {
	b.t.Helper()
	id, e := b.a.Alloc()
	wantID, want := b.p.alloc()
	if id != wantID || e != want {
		b.t.Errorf("Alloc: %d, %d, want %d, %d", id, e, wantID, want)
	}
	return wantID
}

func (b pair) write(id, kind int, body string) {
	b.t.Helper()
	wantE(b.t, fmt.Sprintf("Write(%d, %d, of %d bytes)", id, kind, len(body)), b.a.Write(id, kind, body), b.p.write(id, kind, body))
}

func (b pair) drop(id int) {
	b.t.Helper()
	wantE(b.t, fmt.Sprintf("Free(%d)", id), b.a.Free(id), b.p.drop(id))
}

func (b pair) setRoot(i, n int) {
	b.t.Helper()
	wantE(b.t, fmt.Sprintf("SetRoot(%d, %d)", i, n), b.a.SetRoot(i, n), b.p.setRoot(i, n))
}

// commit commits both, where the disk has power, and tells the database then.
func (b pair) commit() plain {
	b.t.Helper()
	wantE(b.t, "Commit", b.a.Commit(), api.OK)
	return b.p.plain
}

// ofPages tells a database with so many pages that are there, each of another kind and body, one transaction a page, and all at their places.
func ofPages(t *testing.T, log, count, n int) (*sector.Disk, *DB, plain) {
	t.Helper()
	d, x := made(t, log, count)
	p := fresh(count)
	for i := range n {
		b := paired(t, x, p)
		b.write(b.alloc(), 10+i, textOf(20+i))
		p = b.commit()
	}
	wantE(t, "Checkpoint", x.Checkpoint(), api.OK)
	return d, x, p
}

// fixedRow tells numbers that are the same in each run.
func fixedRow() *rand.Rand {
	return rand.New(rand.NewPCG(10, 1))
}

// textOf tells n bytes that are not alike.
func textOf(n int) string {
	b := make([]byte, n)
	for i := range b {
		b[i] = byte(i*7 + i/64 + n)
	}
	return string(b)
}

// choice tells the lowest bits of a number as bools.
func choice(n int, set uint64) []bool {
	all := make([]bool, n)
	for i := range all {
		all[i] = set>>(i%64)&1 == 1
	}
	return all
}

// low4 tells a number in four bytes, the lowest first.
func low4(n uint32) string {
	return string(binary.LittleEndian.AppendUint32(nil, n))
}

// low8 tells a number in eight bytes, the lowest first.
func low8(n uint64) string {
	return string(binary.LittleEndian.AppendUint64(nil, n))
}

// plainSum tells the sum of a text.
func plainSum(s string) uint32 {
	return crc32.Checksum([]byte(s), crc32.MakeTable(crc32.Castagnoli))
}

// plainPage tells a page's bytes.
func plainPage(id uint32, kind byte, body string) string {
	s := low4(id) + string([]byte{kind, 0, byte(len(body)), byte(len(body) >> 8)}) + body
	s += strings.Repeat("\x00", 508-len(s))
	return s + low4(plainSum(s))
}

// plainHead tells the first sector of a log.
func plainHead(epoch uint64, length int) string {
	s := "AQWL" + low8(epoch) + low4(uint32(length))
	return s + low4(plainSum(s))
}

// plainFrame tells a record's frame in a log.
func plainFrame(rec string) string {
	size := low4(uint32(len(rec)))
	return size + low4(plainSum(size+rec)) + rec
}

// pieces tells a text in pieces of a sector.
func pieces(s string) []string {
	var all []string
	for piece := range slices.Chunk([]byte(s), 64) {
		all = append(all, string(piece))
	}
	return all
}

// The plain one does what the document's example says.
func TestPlain(t *testing.T) {
	a := fresh(20).begin()
	id, _ := a.alloc()
	a.write(1, 5, "ab")
	a.setRoot(0, 1)
	want := plain{count: 20, high: 2, pages: map[int]leaf{1: {5, "ab"}}, roots: [4]int{1}}
	if id != 1 || !reflect.DeepEqual(a.plain, want) || len(a.touched) != 2 {
		t.Error(a.plain)
	}
}
