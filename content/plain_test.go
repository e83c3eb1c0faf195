package content

import (
	"fmt"
	"maps"
	"math"
	"math/rand/v2"
	"slices"
	"testing"

	"aquifer/api"
	"aquifer/sector"
	"aquifer/table"
)

// What the document says of contents, told of a map of chunks: all tests hold the program against this.

// place is where a chunk stands: its content's number, and its place.
type place struct{ id, i int }

// plain is what a store has.
type plain struct {
	last int
	has  map[place]string
}

// with tells the same with another chunk; of no bytes: without it.
func (p plain) with(id, i int, s string) plain {
	has := maps.Clone(p.has)
	if has == nil {
		has = map[place]string{}
	}
	if s == "" {
		delete(has, place{id, i})
	} else {
		has[place{id, i}] = s
	}
	return plain{p.last, has}
}

// without tells the same without a content's chunks.
func (p plain) without(id int) plain {
	for i := range 64 {
		p = p.with(id, i, "")
	}
	return p
}

// and tells the same with a content more.
func (p plain) and(s string) plain {
	p.last++
	for i := 0; s != ""; i++ {
		n := min(64, len(s))
		p, s = p.with(p.last, i, s[:n]), s[n:]
	}
	return p
}

// have tells the places of a content's chunks.
func (p plain) have(id int) []int {
	var l []int
	for i := range 64 {
		if _, there := p.has[place{id, i}]; there {
			l = append(l, i)
		}
	}
	return l
}

// all tells a content's bytes, byte by byte: each of them stands in a chunk that has as many as there must be of it.
func (p plain) all(id, size int) (string, api.Errno) {
	var b []byte
	for at := range size {
		i := at / 64
		s := p.has[place{id, i}]
		if len(s) != min(64, size-64*i) {
			return "", api.ErrHollow
		}
		b = append(b, s[at%64])
	}
	return string(b), api.OK
}

// bytes tells how many bytes all chunks have.
func (p plain) bytes() int {
	n := 0
	for _, s := range p.has {
		n += len(s)
	}
	return n
}

// ids tells the numbers of contents that have chunks, those beside them, and the first and the last ones.
func (p plain) ids() []int {
	of := map[int]int{1: 0, 2: 0, p.last - 1: 0, p.last: 0}
	for at := range p.has {
		of[at.id-1], of[at.id], of[at.id+1] = 0, 0, 0
	}
	return slices.DeleteFunc(slices.Sorted(maps.Keys(of)), func(id int) bool { return id < 1 || id > p.last })
}

// pair is a transaction, and what it sees told beside it: what is done to the one is done to the other.
type pair struct {
	t *testing.T
	a *table.Txn
	p plain
}

// paired tells both, of a transaction that begins where the store has that.
func paired(t *testing.T, s *table.Store, p plain) *pair {
	t.Helper()
	return &pair{t, begun(t, s), p}
}

func (b *pair) new() {
	b.t.Helper()
	b.p = b.p.and("")
	wantID(b.t, "New", b.a, New, b.p.last, api.OK)
}

func (b *pair) put(s string) {
	b.t.Helper()
	b.p = b.p.and(s)
	wantID(b.t, fmt.Sprintf("Put of %d bytes", len(s)), b.a, func(a *table.Txn) (int, api.Errno) { return Put(a, s) }, b.p.last, api.OK)
}

func (b *pair) set(id, i int, s string) {
	b.t.Helper()
	b.p = b.p.with(id, i, s)
	wantE(b.t, fmt.Sprintf("Set(%d, %d, %d bytes)", id, i, len(s)), Set(b.a, id, i, s), api.OK)
}

func (b *pair) drop(id int) {
	b.t.Helper()
	b.p = b.p.without(id)
	wantE(b.t, fmt.Sprintf("Drop(%d)", id), Drop(b.a, id), api.OK)
}

func (b *pair) commit() plain {
	b.t.Helper()
	wantE(b.t, "Commit", b.a.Commit(), api.OK)
	return b.p
}

// someSizes tells sizes about the edges of the first chunks and of the last ones.
func someSizes() []int {
	return []int{0, 1, 2, 63, 64, 65, 127, 128, 129, 500, 4031, 4032, 4033, 4095, 4096}
}

// want fails, if the transaction tells otherwise than the plain contents do.
func (b *pair) want(what any) {
	b.t.Helper()
	b.wantSums(what)
	for _, id := range b.p.ids() {
		b.wantContent(what, id)
	}
	for _, id := range []int{math.MinInt, -1, 0, b.p.last + 1, b.p.last + 2, math.MaxInt} {
		wantRefused(b.t, fmt.Sprint(what, ": number ", id), b.a, id, 0, 0, api.ErrArg)
	}
}

// wantSums fails, if the greatest number, or how many bytes there are, is told otherwise.
func (b *pair) wantSums(what any) {
	b.t.Helper()
	wantID(b.t, fmt.Sprint(what, ": Last"), b.a, Last, b.p.last, api.OK)
	wantID(b.t, fmt.Sprint(what, ": Bytes"), b.a, Bytes, b.p.bytes(), api.OK)
}

// wantContent fails, if a content is told otherwise: by all its places, at sizes that it may have or not.
func (b *pair) wantContent(what any, id int) {
	b.t.Helper()
	have := b.p.have(id)
	if l, e := Have(b.a, id); e != api.OK || !slices.Equal(l, have) {
		b.t.Fatalf("%v: Have(%d): %v, %d; want %v", what, id, l, e, have)
	}
	size := 0
	for i := range 64 {
		is, want := b.p.has[place{id, i}]
		if s, there, e := Get(b.a, id, i); s != is || there != want || e != api.OK {
			b.t.Fatalf("%v: Get(%d, %d): %.20q, %v, %d; want %.20q, %v", what, id, i, s, there, e, is, want)
		}
		if len(have) > 0 && i <= have[len(have)-1] {
			size = 64*i + len(is)
		}
	}
	for _, n := range append(someSizes(), size-1, size, size+1) {
		if n < 0 || n > 4096 {
			continue
		}
		is, want := b.p.all(id, n)
		if s, e := All(b.a, id, n); s != is || e != want {
			b.t.Fatalf("%v: All(%d, %d): %d bytes, %d; want %d bytes, %d", what, id, n, len(s), e, len(is), want)
		}
	}
}

// wantE fails, if a call told another error.
func wantE(t *testing.T, what any, got, want api.Errno) {
	t.Helper()
	if got != want {
		t.Errorf("%v: error %d, want %d", what, got, want)
	}
}

// wantID fails, if a call tells another number, or another error.
func wantID(t *testing.T, what any, a *table.Txn, call func(a *table.Txn) (int, api.Errno), want int, wantE api.Errno) {
	t.Helper()
	if n, e := call(a); n != want || e != wantE {
		t.Errorf("%v: %d, error %d; want %d, error %d", what, n, e, want, wantE)
	}
}

// wantRefused fails, if a call about that content, place and size does not tell that error, with nothing.
func wantRefused(t *testing.T, what any, a *table.Txn, id, i, size int, err api.Errno) {
	t.Helper()
	wantPlaceRefused(t, what, a, id, i, err)
	wantSizeRefused(t, what, a, id, size, err)
	if l, e := Have(a, id); len(l) != 0 || e != err {
		t.Errorf("%v: Have: %v, %d; want %d", what, l, e, err)
	}
	wantE(t, fmt.Sprint(what, ": Drop"), Drop(a, id), err)
}

// wantPlaceRefused fails, if a call about that place does not tell that error, whatever the chunk.
func wantPlaceRefused(t *testing.T, what any, a *table.Txn, id, i int, err api.Errno) {
	t.Helper()
	for _, n := range []int{0, 1, 64, 65, 5000} {
		wantE(t, fmt.Sprintf("%v: Set of %d bytes", what, n), Set(a, id, i, textOf(n)), err)
	}
	if s, there, e := Get(a, id, i); s != "" || there || e != err {
		t.Errorf("%v: Get: %.20q, %v, %d; want %d", what, s, there, e, err)
	}
}

// wantSizeRefused fails, if All of that size does not tell that error.
func wantSizeRefused(t *testing.T, what any, a *table.Txn, id, size int, err api.Errno) {
	t.Helper()
	if s, e := All(a, id, size); s != "" || e != err {
		t.Errorf("%v: All of %d: %.20q, %d; want %d", what, size, s, e, err)
	}
}

// wantNothing fails, if a call of a transaction does not tell that error, with nothing, whatever its arguments.
func wantNothing(t *testing.T, what any, a *table.Txn, err api.Errno) {
	t.Helper()
	for name, call := range map[string]func(a *table.Txn) (int, api.Errno){
		"New": New, "Last": Last, "Bytes": Bytes,
		"Put of nothing": putting(0), "Put": putting(200), "Put of too much": putting(4097),
	} {
		wantID(t, fmt.Sprint(what, ": ", name), a, call, 0, err)
	}
	for _, id := range []int{math.MinInt, -1, 0, 1, 2, 99, math.MaxInt} {
		for _, n := range []int{math.MinInt, -1, 0, 63, 64, 4096, 4097, math.MaxInt} {
			wantRefused(t, fmt.Sprint(what, ", number ", id, ", ", n), a, id, n, n, err)
		}
	}
}

// putting tells the call that puts so many bytes.
func putting(n int) func(a *table.Txn) (int, api.Errno) {
	return func(a *table.Txn) (int, api.Errno) { return Put(a, textOf(n)) }
}

// textOf tells n bytes that are not alike from chunk to chunk.
func textOf(n int) string {
	b := make([]byte, n)
	for i := range b {
		b[i] = byte(i*7 + i/64*3 + n)
	}
	return string(b)
}

// fixedRow tells numbers that are the same in each run.
func fixedRow(n uint64) *rand.Rand {
	return rand.New(rand.NewPCG(n, 16))
}

// aDisk tells a disk that has power.
func aDisk(t *testing.T, n int) *sector.Disk {
	t.Helper()
	d, e := sector.New(n)
	if e != api.OK {
		t.Fatalf("a disk of %d sectors: %d", n, e)
	}
	return d
}

// copyOf tells a disk that has the same, all of it kept.
func copyOf(t *testing.T, d *sector.Disk) *sector.Disk {
	t.Helper()
	other := aDisk(t, d.Size())
	for i := range d.Size() {
		s, e := d.Read(i)
		wantE(t, "the disk's Read", e, api.OK)
		wantE(t, "the disk's Write", other.Write(i, s), api.OK)
	}
	wantE(t, "the disk's Flush", other.Flush(), api.OK)
	return other
}

// madeLog is a log that has room for any transaction.
const madeLog = 1100

// opened tells the store that a disk has.
func opened(t *testing.T, d *sector.Disk) *table.Store {
	t.Helper()
	s, e := table.Open(d, madeLog)
	if e != api.OK || s == nil {
		t.Fatalf("the store's Open: %v, %d", s, e)
	}
	return s
}

// made tells a store on a new disk, with room for so many pages.
func made(t *testing.T, count int) *table.Store {
	t.Helper()
	return opened(t, aDisk(t, madeLog+8*count))
}

// begun tells a transaction.
func begun(t *testing.T, s *table.Store) *table.Txn {
	t.Helper()
	a, e := s.Begin()
	if e != api.OK || a == nil {
		t.Fatalf("the store's Begin: %v, %d", a, e)
	}
	return a
}

// parts tells a key of numbers and texts.
func parts(l ...any) []api.Part {
	k := []api.Part{}
	for _, x := range l {
		switch v := x.(type) {
		case int:
			k = append(k, api.Part{Kind: api.PtNum, N: v})
		case string:
			k = append(k, api.Part{Kind: api.PtText, S: v})
		}
	}
	return k
}

// num and text tell records of one field.
func num(tag, n int) []api.Field         { return []api.Field{{Tag: tag, N: n}} }
func text(tag int, s string) []api.Field { return []api.Field{{Tag: tag, Kind: api.FdText, S: s}} }

// numbered lets the greatest number be that.
func numbered(t *testing.T, a *table.Txn, n int) {
	t.Helper()
	wantE(t, "the row of the greatest number", a.Put(1, parts(1), num(1, n)), api.OK)
}
