package btree

import (
	"encoding/binary"
	"fmt"
	"maps"
	"math/rand/v2"
	"reflect"
	"slices"
	"strings"
	"testing"

	"aquifer/api"
	"aquifer/pagedb"
	"aquifer/sector"
)

// What the document says of a tree, told without the program's own calls about nodes: all tests hold the program against this.

// plainTree is what the pages of a tree are, if they are one.
type plainTree struct {
	has    map[string]string
	height int
	pages  map[int]bool
	sizes  map[int]int // bytes of a node's page
	tight  bool        // no page is there that is not needed
}

// plainNode is a node, read by the words of the chapter about nodes.
type plainNode struct {
	leaf  bool
	cells []api.Cell
	keys  []string
	kids  []int
}

// reader reads bytes from their front on, and panics where there are none.
type reader struct{ s string }

func (r *reader) take(n int) string {
	s := r.s[:n]
	r.s = r.s[n:]
	return s
}

func (r *reader) one() int  { return int(r.take(1)[0]) }
func (r *reader) four() int { return int(binary.LittleEndian.Uint32([]byte(r.take(4)))) }

// plainDecode tells a node; it panics where there is none.
func plainDecode(s string) plainNode {
	r := &reader{s}
	var n plainNode
	switch r.one() {
	case 1:
		n.leaf = true
		for range r.one() {
			c := api.Cell{Key: r.take(r.one())}
			switch r.one() {
			case 0:
				c.Val = r.take(r.one())
				must(len(c.Key)+len(c.Val) <= 157)
			case 1:
				c.Len, c.Over = r.four(), r.four()
				must(c.Len <= 1<<14 && isNumber(c.Over))
			default:
				must(false)
			}
			n.cells = append(n.cells, c)
			n.keys = append(n.keys, c.Key)
		}
	case 2:
		many := r.one()
		n.kids = append(n.kids, r.four())
		for range many {
			n.keys = append(n.keys, r.take(r.one()))
			n.kids = append(n.kids, r.four())
		}
	default:
		must(false)
	}
	for i, key := range n.keys {
		must(len(key) >= 1 && len(key) <= 140 && (i == 0 || n.keys[i-1] < key))
	}
	for _, id := range n.kids {
		must(isNumber(id))
	}
	must(r.s == "")
	return n
}

func isNumber(id int) bool { return id >= 1 && id <= 1<<31-1 }

// must panics, if something does not hold.
func must(holds bool) {
	if !holds {
		panic("no tree")
	}
}

// plainRead tells what the pages at a root are, and whether they are a tree.
func plainRead(a *pagedb.Tx, root int) (p plainTree, isTree bool) {
	defer func() {
		if recover() != nil {
			p, isTree = plainTree{}, false
		}
	}()
	p = plainTree{has: map[string]string{}, pages: map[int]bool{}, sizes: map[int]int{}, tight: true}
	if first := a.Root(root); first != 0 {
		p.node(a, first, 1, "", "")
		if n := plainDecode(bodyOf(a, first, 2)); len(n.keys) == 0 {
			p.tight = false
		}
	}
	return p, true
}

// bodyOf tells the body of a page of that kind; it panics where there is none.
func bodyOf(a *pagedb.Tx, id, kind int) string {
	is, body, e := a.Read(id)
	must(e == api.OK && is == kind)
	return body
}

// meet notes a page, which no other part of the tree may have.
func (p *plainTree) meet(id int) {
	must(!p.pages[id])
	p.pages[id] = true
}

// node takes in a node and all below it; its keys stand from low on, below high.
func (p *plainTree) node(a *pagedb.Tx, id, depth int, low, high string) {
	p.meet(id)
	body := bodyOf(a, id, 2)
	p.sizes[id] = len(body)
	n := plainDecode(body)
	for _, key := range n.keys {
		must(key >= low && (high == "" || key < high))
	}
	if n.leaf {
		must(p.height == 0 || p.height == depth)
		p.height = depth
		p.tight = p.tight && len(n.cells) > 0
		for _, c := range n.cells {
			p.has[c.Key] = p.value(a, c)
		}
		return
	}
	bounds := append(append([]string{low}, n.keys...), high)
	for i, kid := range n.kids {
		p.node(a, kid, depth+1, bounds[i], bounds[i+1])
	}
	for i, key := range n.keys {
		together := p.sizes[n.kids[i]] + p.sizes[n.kids[i+1]] - 2
		if !plainDecode(bodyOf(a, n.kids[i], 2)).leaf {
			together += 1 + len(key)
		}
		p.tight = p.tight && together > 500
	}
}

// value tells a cell's value.
func (p *plainTree) value(a *pagedb.Tx, c api.Cell) string {
	if c.Over == 0 {
		return c.Val
	}
	var val string
	full := true
	for id := c.Over; id != 0; {
		p.meet(id)
		r := &reader{bodyOf(a, id, 3)}
		id = r.four()
		p.tight = p.tight && full && r.s != ""
		full = len(r.s) == 496
		val += r.s
	}
	must(len(val) == c.Len)
	// A value that has room in its cell needs no page.
	p.tight = p.tight && len(c.Key)+c.Len > 157
	return val
}

// wantTree fails, if there is not a tree at a root that has these keys and values, in no more pages than it needs, and tells so.
func wantTree(t *testing.T, what any, a *pagedb.Tx, root int, want map[string]string) {
	t.Helper()
	p, isTree := plainRead(a, root)
	switch {
	case !isTree:
		t.Fatalf("%v: the pages are no tree", what)
	case !maps.Equal(p.has, want):
		t.Fatalf("%v: the pages have %s, want %s", what, show(p.has), show(want))
	case !p.tight:
		t.Fatalf("%v: it has pages that it does not need", what)
	}
	wantTold(t, what, a, root, p)
}

// wantTold fails, if a tree is told otherwise than it is.
func wantTold(t *testing.T, what any, a *pagedb.Tx, root int, p plainTree) {
	t.Helper()
	x := Of(a, root)
	h, e := x.Height()
	n, f := x.Pages()
	if h != p.height || n != len(p.pages) || e != api.OK || f != api.OK {
		t.Fatalf("%v: Height %d, error %d, Pages %d, error %d; want %d, %d", what, h, e, n, f, p.height, len(p.pages))
	}
	if e := x.Check(); e != api.OK {
		t.Fatalf("%v: Check: %d", what, e)
	}
	if x.Root() != a.Root(root) || (x.Root() == 0) != (h == 0) {
		t.Fatalf("%v: Root %d, the transaction's %d", what, x.Root(), a.Root(root))
	}
}

// wantGets fails, if Get tells otherwise than a map does.
func wantGets(t *testing.T, what any, x *Tree, has map[string]string, others ...string) {
	t.Helper()
	for key, val := range has {
		if got, there, e := x.Get(key); got != val || !there || e != api.OK {
			t.Fatalf("%v: Get(%.40q): %.40q, %v, %d; want %.40q", what, key, got, there, e, val)
		}
	}
	for _, key := range others {
		if _, there := has[key]; there {
			continue
		}
		if got, there, e := x.Get(key); got != "" || there || e != api.OK {
			t.Fatalf("%v: Get(%.40q): %.40q, %v, %d; want nothing", what, key, got, there, e)
		}
	}
}

// show tells a map, shortened.
func show(m map[string]string) string {
	var b strings.Builder
	for _, key := range slices.Sorted(maps.Keys(m)) {
		fmt.Fprintf(&b, "%.12q(%d):%.12q(%d) ", key, len(key), m[key], len(m[key]))
	}
	return fmt.Sprintf("%d: %.1500s", len(m), b.String())
}

// pair is a tree, and a map beside it: what is done to the one is done to the other.
type pair struct {
	t   *testing.T
	x   *Tree
	has map[string]string
}

// paired tells both, without a key.
func paired(t *testing.T, a *pagedb.Tx, root int) pair {
	t.Helper()
	return pair{t, Of(a, root), map[string]string{}}
}

func (b pair) put(key, val string) {
	b.t.Helper()
	if e := b.x.Put(key, val); e != api.OK {
		b.t.Fatalf("Put(%.40q, of %d bytes): %d", key, len(val), e)
	}
	b.has[key] = val
}

func (b pair) drop(key string) {
	b.t.Helper()
	_, was := b.has[key]
	if there, e := b.x.Delete(key); there != was || e != api.OK {
		b.t.Fatalf("Delete(%.40q): %v, %d; want %v", key, there, e, was)
	}
	delete(b.has, key)
}

func (b pair) want(what any) {
	b.t.Helper()
	wantTree(b.t, what, b.x.tx, b.x.root, b.has)
}

// image is all that a transaction tells, but for roots and pages that are past the high mark.
type image struct {
	roots   [4]int
	changed int
	pages   []string
}

// imageOf tells what a transaction tells, up to the first page that is past the high mark.
func imageOf(a *pagedb.Tx) image {
	m := image{changed: a.Changed()}
	for i := range m.roots {
		m.roots[i] = a.Root(i)
	}
	for id := 1; ; id++ {
		kind, body, e := a.Read(id)
		if e == api.ErrArg {
			return m
		}
		m.pages = append(m.pages, fmt.Sprint(kind, e, body))
	}
}

// wantSame fails, if something has changed what a transaction tells.
func wantSame(t *testing.T, what any, a *pagedb.Tx, was image) {
	t.Helper()
	if is := imageOf(a); !reflect.DeepEqual(is, was) {
		t.Fatalf("%v: something was changed:\nwas %.1000q\nis  %.1000q", what, fmt.Sprint(was), fmt.Sprint(is))
	}
}

// aDisk tells a disk that has power.
func aDisk(t *testing.T, n int) *sector.Disk {
	t.Helper()
	d, e := sector.New(n)
	if e != api.OK {
		t.Fatalf("a disk of %d sectors: %d", n, e)
	}
	return d
}

// opened tells the database that a disk has.
func opened(t *testing.T, d *sector.Disk, log int) *pagedb.DB {
	t.Helper()
	x, e := pagedb.Open(d, log)
	if e != api.OK {
		t.Fatalf("Open: %d", e)
	}
	return x
}

// made tells a database on a new disk, with room for so many pages, page 0 among them.
func made(t *testing.T, count int) *pagedb.DB {
	t.Helper()
	const log = 1100
	return opened(t, aDisk(t, log+8*count), log)
}

// begun tells a transaction.
func begun(t *testing.T, x *pagedb.DB) *pagedb.Tx {
	t.Helper()
	a, e := x.Begin()
	if e != api.OK {
		t.Fatalf("Begin: %d", e)
	}
	return a
}

// fresh tells a transaction of a new database.
func fresh(t *testing.T, count int) *pagedb.Tx {
	t.Helper()
	return begun(t, made(t, count))
}

// wantE fails, if a call told another error.
func wantE(t *testing.T, what any, got, want api.Errno) {
	t.Helper()
	if got != want {
		t.Errorf("%v: error %d, want %d", what, got, want)
	}
}

// page tells a new page that has this.
func page(t *testing.T, a *pagedb.Tx, kind int, body string) int {
	t.Helper()
	id, e := a.Alloc()
	wantE(t, "Alloc", e, api.OK)
	write(t, a, id, kind, body)
	return id
}

// write lets a page have this.
func write(t *testing.T, a *pagedb.Tx, id, kind int, body string) {
	t.Helper()
	wantE(t, "Write", a.Write(id, kind, body), api.OK)
}

// pages tells so many new pages.
func pages(t *testing.T, a *pagedb.Tx, n int) []int {
	t.Helper()
	var ids []int
	for range n {
		ids = append(ids, page(t, a, 9, ""))
	}
	return ids
}

// rooted lets a root have this number.
func rooted(t *testing.T, a *pagedb.Tx, root, n int) *Tree {
	t.Helper()
	wantE(t, "SetRoot", a.SetRoot(root, n), api.OK)
	return Of(a, root)
}

// low4 tells a number in four bytes, the lowest first.
func low4(n int) string {
	return string(binary.LittleEndian.AppendUint32(nil, uint32(n)))
}

// sized tells a text behind its length.
func sized(s string) string { return string([]byte{byte(len(s))}) + s }

// cell tells a cell's bytes, with its value.
func cell(key, val string) string { return sized(key) + "\x00" + sized(val) }

// over tells a cell's bytes whose value lies in pages.
func over(key string, id, size int) string { return sized(key) + "\x01" + low4(size) + low4(id) }

// leaf tells a leaf's bytes.
func leaf(cells ...string) string {
	return string([]byte{1, byte(len(cells))}) + strings.Join(cells, "")
}

// leafOf tells the bytes of a leaf that has these keys, without values.
func leafOf(keys ...string) string {
	var cells []string
	for _, key := range keys {
		cells = append(cells, cell(key, ""))
	}
	return leaf(cells...)
}

// branch tells a branch's bytes: its keys stand between its kids.
func branch(kids []int, keys ...string) string {
	s := string([]byte{2, byte(len(keys))}) + low4(kids[0])
	for i, key := range keys {
		s += sized(key) + low4(kids[i+1])
	}
	return s
}

// fixedRow tells numbers that are the same in each run.
func fixedRow(n uint64) *rand.Rand {
	return rand.New(rand.NewPCG(n, 1))
}

// textOf tells n bytes that are not alike.
func textOf(n int) string {
	b := make([]byte, n)
	for i := range b {
		b[i] = byte(i*7 + i/64 + n)
	}
	return string(b)
}

// numbered tells a key that begins with a number, and has that many bytes.
func numbered(i, size int) string {
	return fmt.Sprintf("%05d", i) + strings.Repeat("k", size-5)
}

// The plain reader tells trees from others.
func TestPlain(t *testing.T) {
	a := fresh(t, 20)
	low, high, far := page(t, a, 2, leafOf("a", "b")), page(t, a, 2, leafOf("c")), page(t, a, 2, leafOf("x"))
	long := page(t, a, 3, low4(0)+textOf(9))
	first := page(t, a, 2, branch([]int{low, high}, "c"))
	for body, want := range map[string]*plainTree{
		branch([]int{low, high}, "c"):    {has: map[string]string{"a": "", "b": "", "c": ""}, height: 2, pages: map[int]bool{low: true, high: true, first: true}},
		branch([]int{low, high}, "bb"):   {has: map[string]string{"a": "", "b": "", "c": ""}, height: 2, pages: map[int]bool{low: true, high: true, first: true}},
		branch([]int{low, high}, "b"):    nil,
		branch([]int{low, high}, "ca"):   nil,
		branch([]int{high, low}, "c"):    nil,
		branch([]int{low, low}, "c"):     nil,
		branch([]int{low, first}, "c"):   nil,
		branch([]int{low, long}, "c"):    nil,
		branch([]int{low, 19}, "c"):      nil,
		branch([]int{far}):               {has: map[string]string{"x": ""}, height: 2, pages: map[int]bool{far: true, first: true}},
		leaf(over("k", long, 9)):         {has: map[string]string{"k": textOf(9)}, height: 1, pages: map[int]bool{long: true, first: true}},
		leaf(over("k", long, 8)):         nil,
		leaf(over("k", low, 9)):          nil,
		leafOf():                         {has: map[string]string{}, height: 1, pages: map[int]bool{first: true}},
		leafOf("a", "a"):                 nil,
		leafOf("a") + "x":                nil,
		leafOf("a")[:4]:                  nil,
		branch([]int{low, high}, "")[:6]: nil,
	} {
		write(t, a, first, 2, body)
		rooted(t, a, 0, first)
		got, isTree := plainRead(a, 0)
		if want == nil {
			want = &plainTree{}
		}
		if isTree != (want.height > 0) || got.height != want.height || !maps.Equal(got.has, want.has) || !maps.Equal(got.pages, want.pages) || got.tight {
			t.Errorf("%x: %v, %v", body, got, isTree)
		}
	}
	rooted(t, a, 0, page(t, a, 2, leafOf("a")))
	if p, isTree := plainRead(a, 0); !isTree || !p.tight {
		t.Error("a leaf")
	}
}
