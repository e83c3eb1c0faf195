package btree

import (
	"fmt"
	"math"
	"testing"
	"unsafe"

	"aquifer/api"
	"aquifer/pagedb"
)

// wantValue fails, if Value tells anything else.
func wantValue(t *testing.T, what string, x *Tree, c api.Cell, want string, wantError api.Errno) {
	t.Helper()
	if s, e := x.Value(c); s != want || e != wantError {
		t.Errorf("%s: Value(%v): %d bytes, %.20q, error %d; want %d bytes, error %d", what, c, len(s), s, e, len(want), wantError)
	}
}

// chained tells the first page of a chain with these texts.
func chained(t *testing.T, a *pagedb.Tx, texts ...string) int {
	t.Helper()
	next := 0
	for i := range texts {
		next = page(t, a, 3, low4(next)+texts[len(texts)-1-i])
	}
	return next
}

// P12.4: the value of a cell that has it.
func TestValueInCell(t *testing.T) {
	a := fresh(t, 20)
	x := Of(a, 0)
	for _, size := range []int{0, 1, 2, 156, 157, 500, 1 << 16} {
		val := textOf(size)
		wantValue(t, "in the cell", x, api.Cell{Key: "a", Val: val}, val, api.OK)
		wantValue(t, "without a key", x, api.Cell{Val: val}, val, api.OK)
		s, _ := x.Value(api.Cell{Key: "a", Val: val})
		if size > 0 && unsafe.StringData(s) == unsafe.StringData(val) {
			t.Errorf("a value of %d bytes is the argument's memory", size)
		}
	}
}

// P12.4: the value of a cell whose value lies in a chain, of each length that is an edge.
func TestValueInChain(t *testing.T) {
	a := fresh(t, 200)
	x := Of(a, 3)
	for _, size := range []int{0, 1, 495, 496, 497, 991, 992, 993, 5000, 1<<14 - 1, 1 << 14} {
		val := textOf(size)
		first := chained(t, a, parts(val)...)
		wantValue(t, "a chain", x, api.Cell{Key: "a", Over: first, Len: size}, val, api.OK)
		for _, other := range []int{size - 1, size + 1, size + 496, -1, -size - 1, 0, math.MinInt, math.MaxInt} {
			if other != size {
				wantValue(t, "another length", x, api.Cell{Key: "a", Over: first, Len: other}, "", api.ErrForm)
			}
		}
	}
	val := textOf(300)
	wantValue(t, "pages that are not full", x, api.Cell{Key: "a", Over: chained(t, a, val[:1], val[1:200], "", val[200:]), Len: 300}, val, api.OK)
}

// chainCase is a chain that is none.
type chainCase struct {
	what string
	c    api.Cell
}

// badChains tells chains that are none.
func badChains(t *testing.T, a *pagedb.Tx) []chainCase {
	t.Helper()
	full := textOf(496)
	free := page(t, a, 3, low4(0)+full)
	node := page(t, a, 2, leafOf("a"))
	var all []chainCase
	add := func(what string, size, first int) {
		all = append(all, chainCase{what, api.Cell{Key: "k", Over: first, Len: size}})
	}
	add("cut short", 992, chained(t, a, full))
	add("too long by a page", 496, chained(t, a, full, full))
	add("too long by an end", 497, chained(t, a, full, "ab"))
	add("too short by an end", 500, chained(t, a, full, "abc"))
	add("no next page", 992, page(t, a, 3, low4(190)+full))
	add("a next page that is far", 992, page(t, a, 3, low4(1<<31-1)+full))
	add("a next page past all", 992, page(t, a, 3, low4(1<<32-1)+full))
	add("a next page that is free", 992, page(t, a, 3, low4(free)+full))
	add("a node", 7, node)
	add("a node behind a page", 503, page(t, a, 3, low4(node)+full))
	for kind := 1; kind < 255; kind++ {
		if kind%50 == 4 {
			add(fmt.Sprint("kind ", kind), 1, page(t, a, kind, low4(0)+"a"))
		}
	}
	for size := range 4 {
		add(fmt.Sprint("a page of ", size, " bytes"), 0, page(t, a, 3, low4(0)[:size]))
		add(fmt.Sprint("a page of ", size, " bytes behind"), 496, page(t, a, 3, low4(page(t, a, 3, low4(0)[:size]))+full))
	}
	self := pages(t, a, 1)[0]
	write(t, a, self, 3, low4(self)+full)
	add("it comes back to itself", 992, self)
	add("it comes back to itself, one page long", 496, self)
	empty := pages(t, a, 1)[0]
	write(t, a, empty, 3, low4(empty))
	add("empty, it comes back to itself", 0, empty)
	add("empty, it comes back to itself, with a length", 1<<14, empty)
	ring := pages(t, a, 2)
	write(t, a, ring[0], 3, low4(ring[1])+full)
	write(t, a, ring[1], 3, low4(ring[0])+full)
	add("two come back", 992, ring[0])
	add("two come back, longer", 1488, ring[0])
	add("it ends in a ring", 1<<14, page(t, a, 3, low4(ring[0])+full))
	add("free", 496, free)
	add("not there", 496, 199)
	add("far", 496, 99999)
	wantE(t, "Free", a.Free(free), api.OK)
	return all
}

// P12.4: chains that are none.
func TestValueOfNoChain(t *testing.T) {
	a := fresh(t, 200)
	x := Of(a, 0)
	for _, c := range badChains(t, a) {
		wantValue(t, c.what, x, c.c, "", api.ErrForm)
	}
	for _, id := range []int{-1, math.MinInt, math.MinInt32, math.MaxInt, math.MaxInt32, 1 << 32, 1<<32 + 1} {
		for _, size := range []int{0, 1, 496, math.MinInt, math.MaxInt} {
			wantValue(t, "outside", x, api.Cell{Key: "a", Over: id, Len: size}, "", api.ErrForm)
		}
	}
}

// P12.2, P12.3: a tree with a chain that is none is no tree; its key's value is not told, and the key is neither put nor deleted: nobody knows which pages it has. Other keys are as they were.
func TestTreeOfNoChain(t *testing.T) {
	a := fresh(t, 200)
	for _, c := range badChains(t, a) {
		x := rooted(t, a, 0, page(t, a, 2, leaf(cell("a", "x"), over("k", c.c.Over, c.c.Len), cell("z", "y"))))
		wantForm(t, c.what, x)
		was := imageOf(a)
		wantRefused(t, c.what, x, "k", "x", api.ErrForm)
		wantRefusedChain(t, c.what, x)
		wantSame(t, c.what, a, was)
		wantGets(t, c.what, x, map[string]string{"a": "x", "z": "y"}, "b")
		wantE(t, "Put", x.Put("a", "other"), api.OK)
		wantGets(t, c.what, x, map[string]string{"a": "other", "z": "y"}, "b")
	}
}

// wantRefusedChain fails, if a value for k, in a chain too, is put.
func wantRefusedChain(t *testing.T, what string, x *Tree) {
	t.Helper()
	for _, size := range []int{0, 157, 1 << 14} {
		wantE(t, what, x.Put("k", textOf(size)), api.ErrForm)
	}
}

// P12.3: pages of values that two have, or that are nodes too.
func TestSharedChains(t *testing.T) {
	a := fresh(t, 200)
	full := textOf(496)
	tail := chained(t, a, "tail")
	one, two := page(t, a, 3, low4(tail)+full), page(t, a, 3, low4(tail)+full)
	for what, body := range map[string]string{
		"one chain of two":     leaf(over("a", one, 500), over("b", one, 500)),
		"one end of two":       leaf(over("a", one, 500), over("b", two, 500)),
		"one's end as another": leaf(over("a", one, 500), over("b", tail, 4)),
	} {
		x := rooted(t, a, 0, page(t, a, 2, body))
		wantForm(t, what, x)
		wantGets(t, what, x, map[string]string{"a": full + "tail"})
	}
	first, second := page(t, a, 2, leaf(over("a", one, 500))), page(t, a, 2, leaf(over("b", one, 500)))
	wantForm(t, "two leaves", rooted(t, a, 0, page(t, a, 2, branch([]int{first, second}, "b"))))
	wantIs(t, "one", rooted(t, a, 0, first), 1, 3)
	wantIs(t, "another", rooted(t, a, 1, second), 1, 3)
}

// P12.2: the first page of a chain may be any; a chain that is put anew takes the pages that the old one had.
func TestChainInPlace(t *testing.T) {
	a := fresh(t, 40)
	b := paired(t, a, 0)
	b.put("k", textOf(3000))
	n, _ := b.x.Node(b.x.Root())
	for _, size := range []int{3000, 2999, 497, 496, 158, 3000, 5000, 157} {
		b.put("k", textOf(size + 1)[1:])
		b.want(size)
		again, _ := b.x.Node(b.x.Root())
		if again.Cells[0].Over != n.Cells[0].Over {
			t.Errorf("of %d bytes: page %d, was %d", size, again.Cells[0].Over, n.Cells[0].Over)
		}
	}
}

// P12.2: what Get tells is new memory.
func TestGetIsNew(t *testing.T) {
	a := fresh(t, 40)
	b := paired(t, a, 0)
	for _, size := range []int{1, 100, 1000} {
		val := textOf(size)
		b.put("k", val)
		one, _, _ := b.x.Get("k")
		two, _, _ := b.x.Get("k")
		if one != val || unsafe.StringData(one) == unsafe.StringData(val) || unsafe.StringData(one) == unsafe.StringData(two) {
			t.Errorf("a value of %d bytes", size)
		}
	}
}
