package btree

import (
	"fmt"
	"math"
	"math/rand/v2"
	"reflect"
	"slices"
	"testing"

	"aquifer/api"
	"aquifer/pagedb"
)

// wantForm fails, if pages that are no tree are told as one.
func wantForm(t *testing.T, what string, x *Tree) {
	t.Helper()
	if _, isTree := plainRead(x.tx, x.root); isTree {
		t.Fatalf("%s: by the words it is a tree", what)
	}
	h, e := x.Height()
	p, f := x.Pages()
	if h != 0 || p != 0 || e != api.ErrForm || f != api.ErrForm {
		t.Errorf("%s: Height %d, %d, Pages %d, %d; want ErrForm", what, h, e, p, f)
	}
	wantE(t, what+": Check", x.Check(), api.ErrForm)
}

// wantIs fails, if a tree that was made by hand is told otherwise than it is.
func wantIs(t *testing.T, what string, x *Tree, height, pages int) {
	t.Helper()
	p, isTree := plainRead(x.tx, x.root)
	if !isTree || p.height != height || len(p.pages) != pages {
		t.Fatalf("%s: by the words: %v, %v", what, p, isTree)
	}
	wantTold(t, what, x.tx, x.root, p)
	wantGets(t, what, x, p.has)
}

// maker makes pages of nodes.
type maker struct {
	t *testing.T
	a *pagedb.Tx
}

// leaf tells the page of a leaf that has these keys, without values.
func (m maker) leaf(keys ...string) int { return page(m.t, m.a, 2, leafOf(keys...)) }

// branch tells the page of a branch.
func (m maker) branch(kids []int, keys ...string) int {
	return page(m.t, m.a, 2, branch(kids, keys...))
}

// P12.3: trees that were made by hand, and what is not quite one of them.
func TestCheckByHand(t *testing.T) {
	for what, c := range map[string]struct {
		height, pages int // 0, 0: it is no tree
		first         func(m maker) int
	}{
		"a leaf":          {1, 1, func(m maker) int { return m.leaf("a", "b") }},
		"an empty leaf":   {1, 1, func(m maker) int { return m.leaf() }},
		"one kid":         {2, 2, func(m maker) int { return m.branch([]int{m.leaf("a")}) }},
		"one kid of one":  {3, 3, func(m maker) int { return m.branch([]int{m.branch([]int{m.leaf("a")})}) }},
		"two leaves":      {2, 3, func(m maker) int { return m.branch([]int{m.leaf("a"), m.leaf("b")}, "b") }},
		"a lesser key":    {2, 3, func(m maker) int { return m.branch([]int{m.leaf("a"), m.leaf("b")}, "a\x00") }},
		"a key too low":   {0, 0, func(m maker) int { return m.branch([]int{m.leaf("a"), m.leaf("b")}, "a") }},
		"a key too high":  {0, 0, func(m maker) int { return m.branch([]int{m.leaf("a"), m.leaf("b")}, "b\x00") }},
		"leaves changed":  {0, 0, func(m maker) int { return m.branch([]int{m.leaf("b"), m.leaf("a")}, "b") }},
		"a key in both":   {0, 0, func(m maker) int { return m.branch([]int{m.leaf("a", "b"), m.leaf("b")}, "b") }},
		"three, the last": {0, 0, func(m maker) int { return m.branch([]int{m.leaf("a"), m.leaf("b"), m.leaf("bb")}, "b", "c") }},
		"three, between":  {0, 0, func(m maker) int { return m.branch([]int{m.leaf("a"), m.leaf("b", "c"), m.leaf("d")}, "b", "c") }},
		"three":           {2, 4, func(m maker) int { return m.branch([]int{m.leaf("a"), m.leaf("b"), m.leaf("c")}, "b", "c") }},
		"empty leaves":    {2, 4, func(m maker) int { return m.branch([]int{m.leaf(), m.leaf(), m.leaf()}, "b", "c") }},
		"unequally deep":  {0, 0, func(m maker) int { return m.branch([]int{m.leaf("a"), m.branch([]int{m.leaf("b")})}, "b") }},
		"deep first":      {0, 0, func(m maker) int { return m.branch([]int{m.branch([]int{m.leaf("a")}), m.leaf("b")}, "b") }},
		"unequal, empty":  {0, 0, func(m maker) int { return m.branch([]int{m.leaf(), m.branch([]int{m.leaf()})}, "b") }},
		"equally deep": {3, 5, func(m maker) int {
			return m.branch([]int{m.branch([]int{m.leaf("a")}), m.branch([]int{m.leaf("b")})}, "b")
		}},
		"a branch's key too low": {0, 0, func(m maker) int {
			return m.branch([]int{m.branch([]int{m.leaf("a")}), m.branch([]int{m.leaf(), m.leaf("m")}, "l")}, "m")
		}},
		"a branch's key too high": {0, 0, func(m maker) int {
			return m.branch([]int{m.branch([]int{m.leaf("a"), m.leaf()}, "n"), m.branch([]int{m.leaf("m")})}, "m")
		}},
		"a branch's key at the bound, above": {0, 0, func(m maker) int {
			return m.branch([]int{m.branch([]int{m.leaf("a"), m.leaf()}, "m"), m.branch([]int{m.leaf("m")})}, "m")
		}},
		"a branch's key at the bound, below": {3, 6, func(m maker) int {
			return m.branch([]int{m.branch([]int{m.leaf("a")}), m.branch([]int{m.leaf(), m.leaf("m")}, "m")}, "m")
		}},
		"a key two levels below its bound": {0, 0, func(m maker) int {
			return m.branch([]int{m.branch([]int{m.leaf("a"), m.leaf("c", "m")}, "b"), m.branch([]int{m.leaf("n")})}, "m")
		}},
		"a key two levels above its bound": {0, 0, func(m maker) int {
			return m.branch([]int{m.branch([]int{m.leaf("a"), m.leaf("c")}, "b"), m.branch([]int{m.leaf("l"), m.leaf("o")}, "o")}, "m")
		}},
		"a leaf that two have": {0, 0, func(m maker) int {
			one := m.leaf()
			return m.branch([]int{one, one}, "m")
		}},
		"a leaf that two branches have": {0, 0, func(m maker) int {
			one := m.leaf()
			return m.branch([]int{m.branch([]int{one}), m.branch([]int{one})}, "m")
		}},
		"a branch that two have": {0, 0, func(m maker) int {
			one := m.branch([]int{m.leaf()})
			return m.branch([]int{one, one}, "m")
		}},
	} {
		a := fresh(t, 20)
		first := c.first(maker{t, a})
		for root := range 4 {
			x := rooted(t, a, root, first)
			if c.height == 0 {
				wantForm(t, what, x)
			} else {
				wantIs(t, what, x, c.height, c.pages)
			}
		}
	}
}

// P12.3: ways that come back to themselves.
func TestCheckOfRings(t *testing.T) {
	a := fresh(t, 20)
	ids := pages(t, a, 4)
	x := rooted(t, a, 0, ids[0])
	for what, bodies := range map[string][]string{
		"itself":              {branch(ids[:1])},
		"itself behind a key": {branch([]int{ids[1], ids[0]}, "m"), leafOf("a")},
		"two":                 {branch(ids[1:2]), branch(ids[:1])},
		"three":               {branch(ids[1:2]), branch(ids[2:3]), branch(ids[:1])},
		"below the first":     {branch(ids[1:2]), branch(ids[2:3]), branch(ids[1:2])},
		"with leaves":         {branch(ids[1:3], "m"), branch([]int{ids[3], ids[1]}, "c"), leafOf("m"), leafOf("a")},
	} {
		for i, body := range bodies {
			write(t, a, ids[i], 2, body)
		}
		wantForm(t, what, x)
		was := imageOf(a)
		for _, key := range []string{"a", "b", "m", "n", "z"} {
			_, _, e := x.Get(key)
			if what != "with leaves" && what != "itself behind a key" {
				wantE(t, what+": Get", e, api.ErrForm)
				wantE(t, what+": Put", x.Put(key, "x"), api.ErrForm)
				_, e = x.Delete(key)
				wantE(t, what+": Delete", e, api.ErrForm)
				wantSame(t, what, a, was)
			}
		}
	}
}

// P12.3, P12.4: pages of another kind, pages that are not there, and bodies that are no node's.
func TestNoNode(t *testing.T) {
	a := fresh(t, 60)
	good := page(t, a, 2, leafOf("a"))
	spare := pages(t, a, 5)
	top, free, other := spare[0], spare[1], spare[3]
	no := map[string]int{"free": free, "past the high mark": 40, "far": 99999, "the last number": 1<<31 - 1, "a number of new ones": firstFresh, "the next one": firstFresh + 1}
	for kind := 1; kind < 255; kind++ {
		if kind != 2 {
			write(t, a, other, kind, leafOf("z"))
			x := rooted(t, a, 0, other)
			wantForm(t, fmt.Sprint("kind ", kind), x)
			wantNoNode(t, fmt.Sprint("kind ", kind), x, other)
		}
	}
	write(t, a, other, 2, leafOf("z"))
	wantIs(t, "kind 2", rooted(t, a, 0, other), 1, 1)
	for i, body := range []string{"", "\x01", "\x02", "\x00\x00", "\x03\x00", leafOf("a", "a"), leafOf("b", "a"), leafOf("a") + "\x00", leafOf("a")[:5], branch([]int{0}), branch([]int{1 << 31}), "\x02\x00", textOf(500)} {
		id := page(t, a, 2, body)
		no[fmt.Sprint("body ", i)] = id
	}
	wantE(t, "Free", a.Free(free), api.OK)
	for what, id := range no {
		x := rooted(t, a, 0, id)
		wantForm(t, what, x)
		wantNoNode(t, what, x, id)
		was := imageOf(a)
		wantRefused(t, what, x, "b", "x", api.ErrForm)
		wantSame(t, what, a, was)
		for _, kids := range [][]int{{id, good}, {good, id}} {
			write(t, a, top, 2, branch(kids, "a"))
			wantForm(t, what+" below", rooted(t, a, 1, top))
		}
	}
}

// wantNoNode fails, if Node tells anything but ErrForm.
func wantNoNode(t *testing.T, what any, x *Tree, id int) {
	t.Helper()
	if n, e := x.Node(id); !isNothing(n) || e != api.ErrForm {
		t.Errorf("%v: Node(%d): %v, %d", what, id, n, e)
	}
}

// P12.4: Node tells the node of a page, of this tree or not.
func TestNode(t *testing.T) {
	a := fresh(t, 20)
	for body, want := range map[string]api.Node{
		leaf(cell("a", "x"), over("b", 7, 500), cell("c", "")): {Leaf: true, Cells: []api.Cell{{Key: "a", Val: "x"}, {Key: "b", Over: 7, Len: 500}, {Key: "c"}}},
		leafOf():                        {Leaf: true},
		branch([]int{7}):                {Kids: []int{7}},
		branch([]int{1 << 30, 9}, "ab"): {Keys: []string{"ab"}, Kids: []int{1 << 30, 9}},
	} {
		id := page(t, a, 2, body)
		for root := range 4 {
			n, e := Of(a, root).Node(id)
			if e != api.OK || n.Leaf != want.Leaf || !slices.Equal(n.Cells, want.Cells) || !slices.Equal(n.Keys, want.Keys) || !slices.Equal(n.Kids, want.Kids) {
				t.Errorf("Node: %v, %d; want %v", n, e, want)
			}
		}
	}
	for _, id := range []int{math.MinInt, math.MinInt32, -1, 0, 5, 6, 19, 20, 21, math.MaxInt32, math.MaxInt32 + 1, 1 << 32, 1<<32 + 1, math.MaxInt} {
		wantNoNode(t, "outside", Of(a, 0), id)
	}
}

// P12.4: what Node tells is new memory each time.
func TestNodeIsNew(t *testing.T) {
	a := fresh(t, 20)
	x := Of(a, 0)
	for _, id := range []int{page(t, a, 2, leafOf("a", "b")), page(t, a, 2, branch([]int{1, 2}, "b"))} {
		first, _ := x.Node(id)
		want, _ := x.Node(id)
		for i := range first.Cells {
			first.Cells[i].Key = "z"
		}
		for i := range first.Keys {
			first.Keys[i] = "z"
		}
		for i := range first.Kids {
			first.Kids[i] = 9
		}
		if again, _ := x.Node(id); !reflect.DeepEqual(again, want) {
			t.Errorf("%v, was %v", again, want)
		}
	}
}

// P12.4: Root of an empty tree, and of others, whatever their pages are.
func TestRoot(t *testing.T) {
	a := fresh(t, 20)
	for root := range 4 {
		x := Of(a, root)
		for _, n := range []int{0, 1, 5, 19, 20, 1<<31 - 1, 0} {
			wantE(t, "SetRoot", a.SetRoot(root, n), api.OK)
			if x.Root() != n {
				t.Errorf("Root %d, want %d", x.Root(), n)
			}
		}
	}
	b := paired(t, a, 2)
	b.put("a", "x")
	if n, e := b.x.Node(b.x.Root()); e != api.OK || !n.Leaf || len(n.Cells) != 1 || b.x.Root() != a.Root(2) {
		t.Errorf("Root %d: %v, %d", b.x.Root(), n, e)
	}
	b.drop("a")
	if b.x.Root() != 0 {
		t.Errorf("Root %d", b.x.Root())
	}
}

// P12.2, P12.3: trees as the words have them, but none that Put would make, are maps too: nodes that are empty, branches of one kid, values in pages that are not full.
func TestTreesOfOthers(t *testing.T) {
	for seed := range uint64(60) {
		row := fixedRow(300 + seed)
		a := fresh(t, 600)
		height := 1 + row.IntN(4)
		next := 0
		rooted(t, a, 0, anyTree(t, row, a, height, &next))
		p, isTree := plainRead(a, 0)
		if !isTree || p.height != height {
			t.Fatalf("seed %d: by the words: %v, %v", seed, p, isTree)
		}
		wantTold(t, seed, a, 0, p)
		b := pair{t, Of(a, 0), p.has}
		wantGets(t, seed, b.x, b.has, "0", "00000", "99999")
		for i := range 60 {
			key := numbered(row.IntN(next+2), 5+row.IntN(3))
			if row.IntN(2) == 0 {
				b.put(key, textOf(anyLength(row.IntN(1<<20))))
			} else {
				b.drop(key)
			}
			p, isTree := plainRead(a, 0)
			if !isTree || !reflect.DeepEqual(p.has, b.has) {
				t.Fatalf("seed %d at %d: %s, want %s", seed, i, show(p.has), show(b.has))
			}
			wantTold(t, seed, a, 0, p)
		}
		p, _ = plainRead(a, 0)
		wantAllPages(t, a, len(p.pages))
	}
}

// anyTree tells the page of a node that lies so high above its leaves, whose keys stand from next on.
func anyTree(t *testing.T, row *rand.Rand, a *pagedb.Tx, height int, next *int) int {
	t.Helper()
	var cells, keys []string
	var kids []int
	for i := range row.IntN(4) + min(height-1, 1) {
		if height > 1 {
			if i > 0 {
				keys = append(keys, numbered(*next, 5))
			}
			kids = append(kids, anyTree(t, row, a, height-1, next))
			*next++
			continue
		}
		key := numbered(*next, 5)
		*next++
		if row.IntN(4) > 0 {
			cells = append(cells, cell(key, textOf(row.IntN(100))))
			continue
		}
		size, over1 := anyChain(t, row, a)
		cells = append(cells, over(key, over1, size))
	}
	if height > 1 {
		return page(t, a, 2, branch(kids, keys...))
	}
	return page(t, a, 2, leaf(cells...))
}

// anyChain tells a value's length and its first page; its pages are more or less full.
func anyChain(t *testing.T, row *rand.Rand, a *pagedb.Tx) (size, first int) {
	t.Helper()
	for range 1 + row.IntN(3) {
		text := textOf([]int{0, 1, 9, 495, 496}[row.IntN(5)])
		first = page(t, a, 3, low4(first)+text)
		size += len(text)
	}
	return size, first
}

// P12.2, P12.3: pages that were a tree, and were changed somewhere: all calls end, tell whether they are a tree, and where they tell an error change nothing.
func TestAnyPages(t *testing.T) {
	trees, others := 0, 0
	for seed := range uint64(400) {
		row := fixedRow(1000 + seed)
		db := made(t, 300)
		b := paired(t, begun(t, db), 0)
		for i := range 10 + row.IntN(40) {
			b.put(numbered(i*3, 100+i%41), textOf(anyLength(row.IntN(1<<20))%1200))
		}
		wantE(t, "Commit", b.x.tx.Commit(), api.OK)
		a := begun(t, db)
		x := Of(a, 0)
		for range 1 + row.IntN(3) {
			harm(t, row, a, db.High())
		}
		p, isTree := plainRead(a, 0)
		if isTree {
			trees++
			wantTold(t, seed, a, 0, p)
		} else {
			others++
			wantForm(t, fmt.Sprint("seed ", seed), x)
		}
		for range 20 {
			key, was := numbered(row.IntN(160), 100+row.IntN(41)), imageOf(a)
			val, there, e := x.Get(key)
			if e != api.OK && (val != "" || there) || e == api.OK && there && isTree && p.has[key] != val {
				t.Fatalf("seed %d: Get: %.40q, %v, %d", seed, val, there, e)
			}
			if row.IntN(2) == 0 {
				e = x.Put(key, textOf(anyLength(row.IntN(1<<20))))
			} else {
				there, e = x.Delete(key)
			}
			if e != api.OK && e != api.ErrForm || isTree && e != api.OK {
				t.Fatalf("seed %d: %d", seed, e)
			}
			if e != api.OK {
				wantSame(t, seed, a, was)
			}
		}
		if _, still := plainRead(a, 0); isTree && !still {
			t.Fatalf("seed %d: it is no tree any more", seed)
		}
	}
	if trees < 20 || others < 100 {
		t.Errorf("%d trees, %d others", trees, others)
	}
}

// harm changes something of some page.
func harm(t *testing.T, row *rand.Rand, a *pagedb.Tx, high int) {
	t.Helper()
	id := 1 + row.IntN(high-1)
	kind, body, e := a.Read(id)
	if e != api.OK {
		return
	}
	other := 1 + row.IntN(high)
	switch n, _ := Of(a, 0).Node(id); row.IntN(9) {
	case 0:
		a.Free(id)
	case 1:
		write(t, a, id, 5-kind, body)
	case 2:
		write(t, a, id, 2, branch([]int{other}))
	case 3:
		a.SetRoot(0, other)
	case 4:
		write(t, a, id, 2, leafOf(numbered(row.IntN(160), 100+row.IntN(41))))
	case 5:
		write(t, a, id, 3, low4(other)+textOf(row.IntN(497)))
	case 6, 7, 8:
		if len(n.Kids) > 0 {
			n.Kids[row.IntN(len(n.Kids))] = other
			write(t, a, id, 2, branch(n.Kids, n.Keys...))
		} else if kind == 3 {
			write(t, a, id, 3, body[:row.IntN(len(body)+1)])
		}
	}
}

// P12.2: where a leaf's keys stand outside its bounds, and must be parted at one of them, that is refused, and nothing changed.
func TestSplitOutside(t *testing.T) {
	a := fresh(t, 40)
	var low, high []string
	for i := range 3 {
		low = append(low, cell(numbered(100+i, 140), textOf(16)))
		high = append(high, cell(numbered(500+i, 140), textOf(16)))
	}
	ids := []int{page(t, a, 2, leaf(high...)), page(t, a, 2, leaf(low...)), page(t, a, 2, leaf(high...))}
	x := rooted(t, a, 0, page(t, a, 2, branch(ids, "002", "00300")))
	wantForm(t, "outside", x)
	was := imageOf(a)
	wantE(t, "Put", x.Put(numbered(1, 140), textOf(17)), api.ErrForm)
	wantSame(t, "Put", a, was)
}

// P12.2: nodes that two have, met while others are joined: that is refused, and nothing changed.
func TestJoinOfWhatTwoHave(t *testing.T) {
	for what, top := range map[string]func(m maker) int{
		"on both sides": func(m maker) int {
			one := m.leaf()
			return m.branch([]int{one, m.leaf("k"), one}, "b", "x")
		},
		"where two branches meet": func(m maker) int {
			one := m.leaf()
			return m.branch([]int{m.branch([]int{m.leaf("k"), one}, "l"), m.branch([]int{one})}, "m")
		},
		"where branches of branches meet": func(m maker) int {
			one := m.branch([]int{m.leaf()})
			return m.branch([]int{m.branch([]int{m.branch([]int{m.leaf("k")}), one}, "l"), m.branch([]int{one})}, "m")
		},
		"the first node below itself": func(m maker) int {
			first, only := m.leaf(), m.leaf()
			write(m.t, m.a, first, 2, branch([]int{m.leaf("k"), only}, "l"))
			write(m.t, m.a, only, 2, branch([]int{first}))
			return first
		},
	} {
		a := fresh(t, 20)
		x := rooted(t, a, 0, top(maker{t, a}))
		wantForm(t, what, x)
		was := imageOf(a)
		there, e := x.Delete("k")
		if there || e != api.ErrForm {
			t.Errorf("%s: Delete: %v, %d", what, there, e)
		}
		wantSame(t, what, a, was)
	}
}

// P12.2: a leaf beside a branch is not joined with it.
func TestLeafBesideBranch(t *testing.T) {
	a := fresh(t, 20)
	m := maker{t, a}
	x := rooted(t, a, 0, m.branch([]int{m.branch([]int{m.leaf("k", "kk"), m.leaf("l")}, "l"), m.leaf("o")}, "n"))
	wantForm(t, "a leaf beside a branch", x)
	if there, e := x.Delete("k"); !there || e != api.OK {
		t.Errorf("Delete: %v, %d", there, e)
	}
	wantGets(t, "a leaf beside a branch", x, map[string]string{"kk": "", "l": "", "o": ""}, "k")
}

// P12.2: numbers of pages that no disk has are not taken for others.
func TestFarPages(t *testing.T) {
	for _, far := range []int{1<<30 - 1, 1 << 30, 1<<30 + 1, 1<<31 - 1} {
		a := fresh(t, 40)
		good := page(t, a, 2, leaf(cell("a", textOf(150)), cell("b", textOf(150)), cell("c", textOf(150))))
		tops := map[string]int{
			"a kid":   page(t, a, 2, branch([]int{good, far}, "m")),
			"a chain": page(t, a, 2, leaf(cell("a", textOf(150)), cell("b", textOf(150)), cell("c", textOf(100)), over("m", far, 400))),
		}
		for what, top := range tops {
			x := rooted(t, a, 0, top)
			wantForm(t, what, x)
			wantRefused(t, what, x, "m", "x", api.ErrForm)
			for i, key := range []string{"a", "aa", "b", "bb", "c"} {
				was := imageOf(a)
				if e := x.Put(key, textOf(100+i*300)); e != api.OK {
					wantE(t, what, e, api.ErrForm)
					wantSame(t, what, a, was)
				}
				if _, e := x.Delete(key); e != api.OK {
					wantE(t, what, e, api.ErrForm)
				}
			}
			n, e := x.Node(x.Root())
			named := slices.Contains(n.Kids, far) || slices.ContainsFunc(n.Cells, func(c api.Cell) bool { return c.Over == far })
			if e != api.OK || !named {
				t.Errorf("%s: %v, %d: page %d is named no more", what, n, e, far)
			}
		}
	}
}
