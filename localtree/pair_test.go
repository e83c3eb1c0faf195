package localtree

import (
	"fmt"
	"maps"
	"math/rand/v2"
	"slices"
	"strings"
	"testing"

	"aquifer/api"
	"aquifer/content"
	"aquifer/sector"
	"aquifer/table"
)

// The calls that the tests make.

func stat(p string) call                { return call{op: "Stat", p: p} }
func list(p string) call                { return call{op: "List", p: p} }
func mkdir(p string) call               { return call{op: "Mkdir", p: p} }
func create(p, s string, now int) call  { return call{op: "Create", p: p, q: s, n: now} }
func read(p string) call                { return call{op: "Read", p: p} }
func write(p, s string) call            { return call{op: "Write", p: p, q: s} }
func rename(from, to string) call       { return call{op: "Rename", p: from, q: to} }
func remove(p string) call              { return call{op: "Remove", p: p} }
func placeOf(p string, a api.Arch) call { return call{op: "Place", p: p, a: a} }
func place(p string, version, size int) call {
	return placeOf(p, api.Arch{Version: version, Size: size, Sum: someSum(p)})
}
func fill(p string, id int) call      { return call{op: "Fill", p: p, n: id} }
func empty(p string) call             { return call{op: "Empty", p: p} }
func mark(p string, version int) call { return call{op: "Mark", p: p, n: version} }
func touch(p string, now int) call    { return call{op: "Touch", p: p, n: now} }
func files() call                     { return call{op: "Files"} }
func hydrated() call                  { return call{op: "Hydrated"} }
func (c call) String() string         { return fmt.Sprintf("%s(%q, %.20q, %d, %+v)", c.op, c.p, c.q, c.n, c.a) }
func (c call) looks() bool            { return strings.Contains(" Stat List Read Files Hydrated ", " "+c.op+" ") }

// of tells what the program tells.
func (c call) of(t *table.Txn) (r answer) {
	switch c.op {
	case "Stat":
		r.node, r.e = Stat(t, c.p)
	case "List":
		r.names, r.e = List(t, c.p)
	case "Mkdir":
		r.e = Mkdir(t, c.p)
	case "Create":
		r.e = Create(t, c.p, c.q, c.n)
	case "Read":
		r.s, r.e = Read(t, c.p)
	case "Write":
		r.e = Write(t, c.p, c.q)
	case "Rename":
		r.e = Rename(t, c.p, c.q)
	case "Remove":
		r.e = Remove(t, c.p)
	case "Place":
		r.e = Place(t, c.p, c.a)
	case "Fill":
		r.e = Fill(t, c.p, c.n)
	case "Empty":
		r.e = Empty(t, c.p)
	case "Mark":
		r.e = Mark(t, c.p, c.n)
	case "Touch":
		r.e = Touch(t, c.p, c.n)
	case "Files":
		r.items, r.e = Files(t)
	case "Hydrated":
		r.n, r.e = Hydrated(t)
	}
	return r
}

// same tells whether two answers are alike.
func same(a, b answer) bool {
	return a.node == b.node && slices.Equal(a.names, b.names) && slices.Equal(a.items, b.items) && a.s == b.s && a.n == b.n && a.e == b.e
}

// pair is a transaction, and what it sees told beside it: what is done to the one is done to the other.
type pair struct {
	t *testing.T
	a *table.Txn
	p plain
}

// paired tells both, of a transaction that begins where the store has that.
func paired(t *testing.T, s *table.Store, p plain) *pair {
	t.Helper()
	return &pair{t, begun(t, s), p.copied()}
}

// fresh tells both, of a store of its own where nothing is.
func fresh(t *testing.T) *pair {
	t.Helper()
	return paired(t, made(t, 400), plain{})
}

// do makes a call, and fails if it does not tell that error, with what the plain tree tells, or the store has something else behind it.
func (b *pair) do(want api.Errno, c call) {
	b.t.Helper()
	r, told := c.of(b.a), b.p.tell(c)
	if told.e != want {
		b.t.Errorf("%v: the plain tree tells %d, want %d", c, int(told.e), int(want))
	}
	if !same(r, told) {
		b.t.Errorf("%v: %.200v, want %.200v", c, fmt.Sprintf("%+v", r), fmt.Sprintf("%+v", told))
	}
	b.wantRows(c)
}

// all makes calls that tell no error.
func (b *pair) all(calls ...call) *pair {
	b.t.Helper()
	for _, c := range calls {
		b.do(api.OK, c)
	}
	return b
}

// any makes a call that tells whatever it must.
func (b *pair) any(c call) api.Errno {
	b.t.Helper()
	after := b.p.copied()
	e := after.tell(c).e
	b.do(e, c)
	return e
}

// commit commits, and tells what the store has then.
func (b *pair) commit() plain {
	b.t.Helper()
	wantE(b.t, "Commit", b.a.Commit(), api.OK)
	return b.p
}

// wantRows fails, if the store's rows are not those of the plain tree.
func (b *pair) wantRows(what any) {
	b.t.Helper()
	for tab, want := range map[int][]api.Row{1: b.p.nextRows(), 2: b.p.chunkRows(), 3: b.p.nodeRows()} {
		rows, e := b.a.Scan(tab, nil)
		if e != api.OK || !slices.EqualFunc(rows, want, sameRow) {
			b.t.Fatalf("%v: the table %d has %.300s, %d; want %.300s", what, tab, fmt.Sprint(rows), int(e), fmt.Sprint(want))
		}
	}
}

func sameRow(a, b api.Row) bool {
	return slices.Equal(a.Key, b.Key) && slices.Equal(a.Rec, b.Rec)
}

// nodeRows tells the rows of the inodes.
func (p plain) nodeRows() []api.Row {
	var l []api.Row
	for _, q := range p.paths() {
		var row api.Row
		for _, name := range strings.Split(q, "/") {
			row.Key = append(row.Key, api.Part{Kind: 2, S: name})
		}
		n := p.nodes[q]
		for _, f := range []api.Field{
			{Tag: 1, N: n.Kind}, {Tag: 2, N: n.Size}, {Tag: 3, Kind: 1, S: string(n.Sum[:])},
			{Tag: 4, N: n.Content}, {Tag: 5, N: n.Version}, {Tag: 6, N: n.Opened},
		} {
			if f.N != 0 || f.Tag == 3 && n.Kind == 2 {
				row.Rec = append(row.Rec, f)
			}
		}
		l = append(l, row)
	}
	return l
}

// chunkRows tells the rows of the contents' chunks.
func (p plain) chunkRows() []api.Row {
	var l []api.Row
	for _, x := range slices.SortedFunc(maps.Keys(p.has), func(a, b at) int {
		return slices.Compare([]int{a.id, a.i}, []int{b.id, b.i})
	}) {
		l = append(l, api.Row{Key: parts(x.id, x.i), Rec: []api.Field{{Tag: 1, Kind: 1, S: p.has[x]}}})
	}
	return l
}

// nextRows tells the row of the greatest number, if one was given.
func (p plain) nextRows() []api.Row {
	if p.last == 0 {
		return nil
	}
	return []api.Row{{Key: parts(1), Rec: []api.Field{{Tag: 1, N: p.last}}}}
}

// want fails, if a call that changes nothing tells of any path, there or not, otherwise than the plain tree does. Contents without a file are only those that are named.
func (b *pair) want(what any, without ...int) {
	b.t.Helper()
	b.wantRows(what)
	calls := []call{files(), hydrated(), stat(""), list("")}
	for _, q := range b.p.paths() {
		calls = append(calls, stat(q), list(q), read(q), stat(q+"0"), stat(q+"/0"))
	}
	for _, c := range calls {
		if r, told := c.of(b.a), b.p.tell(c); !same(r, told) {
			b.t.Fatalf("%v: %v: %.200s, want %.200s", what, c, fmt.Sprintf("%+v", r), fmt.Sprintf("%+v", told))
		}
	}
	b.wantSound(what, without...)
}

// wantSound fails, if the tree is not as P18.6 has it, as the calls alone tell it.
func (b *pair) wantSound(what any, without ...int) {
	b.t.Helper()
	l, e := Files(b.a)
	wantE(b.t, what, e, api.OK)
	owned := map[int]int{}
	for _, x := range l {
		for dir := up(x.Path); dir != ""; dir = up(dir) {
			if n, e := Stat(b.a, dir); n.Kind != 1 || e != api.OK {
				b.t.Fatalf("%v: %q has no directory %q: %+v, %d", what, x.Path, dir, n, int(e))
			}
		}
		owned[x.Node.Content]++
		s, e := Read(b.a, x.Path)
		if x.Node.Content > 0 && (len(s) != x.Node.Size || e != api.OK || owned[x.Node.Content] > 1) {
			b.t.Fatalf("%v: of %q there are %d bytes, %d; want %+v", what, x.Path, len(s), int(e), x.Node)
		}
	}
	rows, e := b.a.Scan(api.TbChunk, nil)
	wantE(b.t, what, e, api.OK)
	for _, row := range rows {
		if id := row.Key[0].N; owned[id] == 0 && !slices.Contains(without, id) {
			b.t.Fatalf("%v: the content %d has no file", what, id)
		}
	}
}

// wantE fails, if a call told another error.
func wantE(t *testing.T, what any, got, want api.Errno) {
	t.Helper()
	if got != want {
		t.Errorf("%v: error %d, want %d", what, int(got), int(want))
	}
}

// textOf tells n bytes that are not alike from chunk to chunk.
func textOf(n int) string {
	b := make([]byte, n)
	for i := range b {
		b[i] = byte(i*7 + i/64*3 + n)
	}
	return string(b)
}

// parts tells a key of numbers.
func parts(l ...int) []api.Part {
	var key []api.Part
	for _, n := range l {
		key = append(key, api.Part{Kind: 1, N: n})
	}
	return key
}

// fixedRow tells numbers that are the same in each run.
func fixedRow(n uint64) *rand.Rand {
	return rand.New(rand.NewPCG(n, 18))
}

func oneOf[T any](r *rand.Rand, l []T) T {
	return l[r.IntN(len(l))]
}

// madeLog is a log that has room for any transaction.
const madeLog = 1100

// aDisk tells a disk that has power.
func aDisk(t *testing.T, n int) *sector.Disk {
	t.Helper()
	d, e := sector.New(n)
	if e != api.OK {
		t.Fatalf("a disk of %d sectors: %d", n, int(e))
	}
	return d
}

// copyOf tells a disk that has the same, all of it kept.
func copyOf(t *testing.T, d *sector.Disk) *sector.Disk {
	t.Helper()
	other := aDisk(t, d.Size())
	for i := range d.Size() {
		s, e := d.Read(i)
		wantE(t, "the disk's Read", e, api.OK)
		wantE(t, "the disk's Write", other.Write(i, s), api.OK)
	}
	wantE(t, "the disk's Flush", other.Flush(), api.OK)
	return other
}

// opened tells the store that a disk has.
func opened(t *testing.T, d *sector.Disk) *table.Store {
	t.Helper()
	s, e := table.Open(d, madeLog)
	if e != api.OK {
		t.Fatalf("the store's Open: %d", int(e))
	}
	return s
}

// made tells a store on a new disk, with room for so many pages.
func made(t *testing.T, count int) *table.Store {
	t.Helper()
	return opened(t, aDisk(t, madeLog+8*count))
}

// begun tells a transaction.
func begun(t *testing.T, s *table.Store) *table.Txn {
	t.Helper()
	a, e := s.Begin()
	if e != api.OK {
		t.Fatalf("the store's Begin: %d", int(e))
	}
	return a
}

// put gives the next content, which no file has as yet.
func (b *pair) put(s string) int {
	b.t.Helper()
	id, e := content.Put(b.a, s)
	if want := b.p.give(s); id != want || e != api.OK {
		b.t.Fatalf("content.Put: %d, %d; want %d", id, int(e), want)
	}
	return id
}

// lay lets a content have a chunk at a place.
func (b *pair) lay(id, i int, s string) {
	b.t.Helper()
	wantE(b.t, "content.Set", content.Set(b.a, id, i, s), api.OK)
	b.p.has[at{id, i}] = s
}
