package cursor

import (
	"encoding/binary"
	"fmt"
	"iter"
	"maps"
	"math/rand/v2"
	"reflect"
	"slices"
	"strings"
	"testing"

	"aquifer/api"
	"aquifer/btree"
	"aquifer/pagedb"
	"aquifer/sector"
)

// What the document says of a cursor, told of a sorted list: all tests hold the program against this.

// model is a tree, and what it has: entries in the order of their keys, and how high it is.
type model struct {
	x       *btree.Tree
	entries []api.Entry
	height  int
}

// listed tells a map's entries in the order of their keys.
func listed(has map[string]string) []api.Entry {
	var l []api.Entry
	for _, key := range slices.Sorted(maps.Keys(has)) {
		l = append(l, api.Entry{Key: key, Val: has[key]})
	}
	return l
}

// grown tells the tree at a root of a transaction behind Put of each entry of a map, in an order that is mixed.
func grown(t *testing.T, a *pagedb.Tx, root int, has map[string]string) model {
	t.Helper()
	m := model{x: btree.Of(a, root), entries: listed(has)}
	for _, i := range fixedRow(uint64(len(has))).Perm(len(has)) {
		wantE(t, "Put", m.x.Put(m.entries[i].Key, m.entries[i].Val), api.OK)
	}
	h, e := m.x.Height()
	wantE(t, "Height", e, api.OK)
	m.height = h
	return m
}

// place tells where the first entry stands whose key is not below key.
func (m model) place(key string) int {
	for i, e := range m.entries {
		if e.Key >= key {
			return i
		}
	}
	return len(m.entries)
}

// within tells the entries of a range.
func (m model) within(low, high string) []api.Entry {
	var l []api.Entry
	for _, e := range m.entries {
		if e.Key >= low && (high == "" || e.Key < high) {
			l = append(l, e)
		}
	}
	return l
}

// probes tells keys that are there, and others: ahead of all, behind all, between, too long ones.
func (m model) probes() []string {
	l := []string{"", "\x00", strings.Repeat("\x00", 141), "\xff", strings.Repeat("\xff", 140), strings.Repeat("\xff", 141), strings.Repeat("k", 1<<16)}
	for _, e := range m.entries {
		l = append(l, e.Key, e.Key[:len(e.Key)-1], e.Key+"\x00", e.Key+"\xff", strings.Repeat(e.Key, 141), fallen(e.Key))
	}
	slices.Sort(l)
	return slices.Compact(l)
}

// fallen tells a key whose last byte is one less.
func fallen(key string) string {
	b := []byte(key)
	b[len(b)-1]--
	return string(b)
}

// wantAt fails, if a cursor does not stand at the place i.
func (m model) wantAt(t *testing.T, what any, c *Cursor, i int) {
	t.Helper()
	if i == len(m.entries) {
		val, e := c.Val()
		if c.Valid() || c.Key() != "" || val != "" || e != api.ErrState || c.Depth() != 0 {
			t.Fatalf("%v: behind the last one: %v, %.40q, %.40q, %d, Depth %d", what, c.Valid(), c.Key(), val, e, c.Depth())
		}
		return
	}
	for range 2 {
		val, e := c.Val()
		if !c.Valid() || c.Key() != m.entries[i].Key || val != m.entries[i].Val || e != api.OK || c.Depth() != m.height {
			t.Fatalf("%v: at %d: %v, %.40q, %.40q, %d, Depth %d; want %.40q, %.40q, Depth %d", what, i, c.Valid(), c.Key(), val, e, c.Depth(), m.entries[i].Key, m.entries[i].Val, m.height)
		}
	}
}

// at tells the cursor that At tells, which must stand where the model says.
func (m model) at(t *testing.T, what any, key string) (*Cursor, int) {
	t.Helper()
	c, e := At(m.x, key)
	if e != api.OK || c == nil {
		t.Fatalf("%v: At(%.40q): %v, %d", what, key, c, e)
	}
	i := m.place(key)
	m.wantAt(t, fmt.Sprintf("%v: At(%.40q)", what, key), c, i)
	return c, i
}

// next moves a cursor from the place i on, and tells its new place.
func (m model) next(t *testing.T, what any, c *Cursor, i int) int {
	t.Helper()
	want := api.OK
	if i == len(m.entries) {
		want = api.ErrState
	} else {
		i++
	}
	if e := c.Next(); e != want {
		t.Fatalf("%v: Next to %d: %d, want %d", what, i, e, want)
	}
	m.wantAt(t, fmt.Sprint(what, ": Next"), c, i)
	return i
}

// prev moves a cursor back from the place i, and tells its new place.
func (m model) prev(t *testing.T, what any, c *Cursor, i int) int {
	t.Helper()
	want := api.OK
	if i == 0 {
		want = api.ErrState
	} else {
		i--
	}
	if e := c.Prev(); e != want {
		t.Fatalf("%v: Prev to %d: %d, want %d", what, i, e, want)
	}
	m.wantAt(t, fmt.Sprint(what, ": Prev"), c, i)
	return i
}

// wantRange fails, if a range is told otherwise than the model has it.
func (m model) wantRange(t *testing.T, low, high string) {
	t.Helper()
	want := m.within(low, high)
	if got := gather(Range(m.x, low, high)); !slices.Equal(got, want) {
		t.Fatalf("Range(%.40q, %.40q): %s; want %s", low, high, show(got), show(want))
	}
	if got, e := All(m.x, low, high); !slices.Equal(got, want) || e != api.OK {
		t.Fatalf("All(%.40q, %.40q): %s, %d; want %s", low, high, show(got), e, show(want))
	}
	if n, e := Count(m.x, low, high); n != len(want) || e != api.OK {
		t.Fatalf("Count(%.40q, %.40q): %d, %d; want %d", low, high, n, e, len(want))
	}
}

// wantCut fails, if a range does not end ahead of an error, with only these told.
func wantCut(t *testing.T, what any, x *btree.Tree, low, high string, want []api.Entry, err api.Errno) {
	t.Helper()
	for range 2 {
		if got := gather(Range(x, low, high)); !slices.Equal(got, want) {
			t.Fatalf("%v: Range(%.40q, %.40q): %s; want %s", what, low, high, show(got), show(want))
		}
	}
	if got, e := All(x, low, high); len(got) != 0 || e != err {
		t.Fatalf("%v: All(%.40q, %.40q): %s, %d; want error %d", what, low, high, show(got), e, err)
	}
	if n, e := Count(x, low, high); n != 0 || e != err {
		t.Fatalf("%v: Count(%.40q, %.40q): %d, %d; want error %d", what, low, high, n, e, err)
	}
}

// wantNone fails, if At and the ranges do not tell an error, with nothing.
func wantNone(t *testing.T, what any, x *btree.Tree, key string, err api.Errno) {
	t.Helper()
	if c, e := At(x, key); c != nil || e != err {
		t.Fatalf("%v: At(%.40q): %v, %d; want error %d", what, key, c, e, err)
	}
	wantCut(t, what, x, key, "", nil, err)
}

// gather tells what a range goes over.
func gather(seq iter.Seq2[string, string]) []api.Entry {
	var l []api.Entry
	for key, val := range seq {
		l = append(l, api.Entry{Key: key, Val: val})
	}
	return l
}

// show tells entries, shortened.
func show(l []api.Entry) string {
	var b strings.Builder
	for _, e := range l {
		fmt.Fprintf(&b, "%.12q(%d):%.12q(%d) ", e.Key, len(e.Key), e.Val, len(e.Val))
	}
	return fmt.Sprintf("%d: %.1500s", len(l), b.String())
}

// wantE fails, if a call told another error.
func wantE(t *testing.T, what any, got, want api.Errno) {
	t.Helper()
	if got != want {
		t.Errorf("%v: error %d, want %d", what, got, want)
	}
}

// image is all that a transaction tells, but for pages that are past the high mark.
type image struct {
	roots   [4]int
	changed int
	pages   []string
}

func imageOf(a *pagedb.Tx) image {
	m := image{changed: a.Changed()}
	for i := range m.roots {
		m.roots[i] = a.Root(i)
	}
	for id := 1; ; id++ {
		kind, body, e := a.Read(id)
		if e == api.ErrArg {
			return m
		}
		m.pages = append(m.pages, fmt.Sprint(kind, e, body))
	}
}

// wantSame fails, if something has changed what a transaction tells.
func wantSame(t *testing.T, what any, a *pagedb.Tx, was image) {
	t.Helper()
	if is := imageOf(a); !reflect.DeepEqual(is, was) {
		t.Fatalf("%v: something was changed:\nwas %.1000q\nis  %.1000q", what, fmt.Sprint(was), fmt.Sprint(is))
	}
}

// logSize is how many sectors the log of a test's disk has.
const logSize = 1100

// disked tells a database on a new disk, with room for so many pages, page 0 among them, and the disk.
func disked(t *testing.T, count int) (*pagedb.DB, *sector.Disk) {
	t.Helper()
	d, e := sector.New(logSize + 8*count)
	wantE(t, "a disk", e, api.OK)
	db, e := pagedb.Open(d, logSize)
	wantE(t, "Open", e, api.OK)
	return db, d
}

// begun tells a transaction.
func begun(t *testing.T, db *pagedb.DB) *pagedb.Tx {
	t.Helper()
	a, e := db.Begin()
	wantE(t, "Begin", e, api.OK)
	return a
}

// fresh tells a transaction of a new database.
func fresh(t *testing.T, count int) *pagedb.Tx {
	t.Helper()
	db, _ := disked(t, count)
	return begun(t, db)
}

// maker makes pages by hand.
type maker struct {
	t *testing.T
	a *pagedb.Tx
}

// page tells a new page that has this.
func (m maker) page(kind int, body string) int {
	m.t.Helper()
	id, e := m.a.Alloc()
	wantE(m.t, "Alloc", e, api.OK)
	m.write(id, kind, body)
	return id
}

// write lets a page have this.
func (m maker) write(id, kind int, body string) {
	m.t.Helper()
	wantE(m.t, "Write", m.a.Write(id, kind, body), api.OK)
}

// leaf tells the page of a leaf that has these keys, each its own value.
func (m maker) leaf(keys ...string) int {
	m.t.Helper()
	return m.page(2, leafOf(keys...))
}

// branch tells the page of a branch.
func (m maker) branch(kids []int, keys ...string) int {
	m.t.Helper()
	return m.page(2, branch(kids, keys...))
}

// rooted tells the tree whose first node is that page.
func (m maker) rooted(root, first int) *btree.Tree {
	m.t.Helper()
	wantE(m.t, "SetRoot", m.a.SetRoot(root, first), api.OK)
	return btree.Of(m.a, root)
}

// selves tells entries each of which has its key as its value, as leaves that are made by hand have them.
func selves(keys ...string) []api.Entry {
	var l []api.Entry
	for _, key := range keys {
		l = append(l, api.Entry{Key: key, Val: key})
	}
	return l
}

// low4 tells a number in four bytes, the lowest first.
func low4(n int) string {
	return string(binary.LittleEndian.AppendUint32(nil, uint32(n)))
}

// sized tells a text behind its length.
func sized(s string) string { return string([]byte{byte(len(s))}) + s }

// cell tells a cell's bytes, with its value.
func cell(key, val string) string { return sized(key) + "\x00" + sized(val) }

// over tells a cell's bytes whose value lies in pages.
func over(key string, id, size int) string { return sized(key) + "\x01" + low4(size) + low4(id) }

// leaf tells a leaf's bytes.
func leaf(cells ...string) string {
	return string([]byte{1, byte(len(cells))}) + strings.Join(cells, "")
}

// leafOf tells the bytes of a leaf that has these keys, each its own value.
func leafOf(keys ...string) string {
	var cells []string
	for _, key := range keys {
		cells = append(cells, cell(key, key))
	}
	return leaf(cells...)
}

// branch tells a branch's bytes: its keys stand between its kids.
func branch(kids []int, keys ...string) string {
	s := string([]byte{2, byte(len(keys))}) + low4(kids[0])
	for i, key := range keys {
		s += sized(key) + low4(kids[i+1])
	}
	return s
}

// leaves tells the pages of a tree's leaves, in order.
func leaves(t *testing.T, x *btree.Tree) []int {
	t.Helper()
	return leavesBelow(t, x, x.Root())
}

func leavesBelow(t *testing.T, x *btree.Tree, id int) []int {
	t.Helper()
	n, e := x.Node(id)
	wantE(t, "Node", e, api.OK)
	if n.Leaf {
		return []int{id}
	}
	var l []int
	for _, kid := range n.Kids {
		l = append(l, leavesBelow(t, x, kid)...)
	}
	return l
}

// fixedRow tells numbers that are the same in each run.
func fixedRow(n uint64) *rand.Rand {
	return rand.New(rand.NewPCG(n, 13))
}

// textOf tells n bytes that are not alike.
func textOf(n int) string {
	b := make([]byte, n)
	for i := range b {
		b[i] = byte(i*7 + i/64 + n)
	}
	return string(b)
}

// numbered tells a key that begins with a number, and has that many bytes.
func numbered(i, size int) string {
	return fmt.Sprintf("%05d", i) + strings.Repeat("k", size-5)
}

// plain tells what the pages at a root have, and whether they are a tree: its keys and values in order, by a way down of its own.
func plain(a *pagedb.Tx, root int) (l []api.Entry, height int, isTree bool) {
	x := btree.Of(a, root)
	if x.Check() != api.OK {
		return nil, 0, false
	}
	height, _ = x.Height()
	var below func(id int)
	below = func(id int) {
		n, _ := x.Node(id)
		for _, kid := range n.Kids {
			below(kid)
		}
		for _, c := range n.Cells {
			val, _ := x.Value(c)
			l = append(l, api.Entry{Key: c.Key, Val: val})
		}
	}
	if x.Root() != 0 {
		below(x.Root())
	}
	return l, height, true
}
