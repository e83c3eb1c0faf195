package cursor

import (
	"fmt"
	"math/rand/v2"
	"testing"

	"aquifer/api"
	"aquifer/btree"
)

// P13.1 to P13.5: trees as the words have them, but none that Put would make: empty leaves, branches of one kid, keys of branches that no leaf has.
func TestTreesByHand(t *testing.T) {
	for what, c := range map[string]struct {
		keys  []string
		depth int
		first func(h maker) int
	}{
		"an empty leaf":   {nil, 1, func(h maker) int { return h.leaf() }},
		"a leaf":          {[]string{"a", "b"}, 1, func(h maker) int { return h.leaf("a", "b") }},
		"one kid":         {[]string{"a"}, 2, func(h maker) int { return h.branch([]int{h.leaf("a")}) }},
		"one kid of one":  {[]string{"a"}, 3, func(h maker) int { return h.branch([]int{h.branch([]int{h.leaf("a")})}) }},
		"two":             {[]string{"a", "b"}, 2, func(h maker) int { return h.branch([]int{h.leaf("a"), h.leaf("b")}, "b") }},
		"a lesser key":    {[]string{"a", "b"}, 2, func(h maker) int { return h.branch([]int{h.leaf("a"), h.leaf("b")}, "a\x00") }},
		"empty first":     {[]string{"b"}, 2, func(h maker) int { return h.branch([]int{h.leaf(), h.leaf("b")}, "b") }},
		"empty last":      {[]string{"a"}, 2, func(h maker) int { return h.branch([]int{h.leaf("a"), h.leaf()}, "b") }},
		"empty between":   {[]string{"a", "d"}, 2, func(h maker) int { return h.branch([]int{h.leaf("a"), h.leaf(), h.leaf(), h.leaf("d")}, "b", "c", "d") }},
		"empty all":       {nil, 2, func(h maker) int { return h.branch([]int{h.leaf(), h.leaf(), h.leaf()}, "b", "c") }},
		"empty and empty": {nil, 3, func(h maker) int { return h.branch([]int{h.branch([]int{h.leaf()}), h.branch([]int{h.leaf()})}, "b") }},
		"all but one": {[]string{"m"}, 3, func(h maker) int {
			return h.branch([]int{h.branch([]int{h.leaf(), h.leaf()}, "c"), h.branch([]int{h.leaf(), h.leaf("m"), h.leaf()}, "l", "n"), h.branch([]int{h.leaf()})}, "k", "x")
		}},
		"a key at its bound": {[]string{"a", "m"}, 3, func(h maker) int {
			return h.branch([]int{h.branch([]int{h.leaf("a")}), h.branch([]int{h.leaf(), h.leaf("m")}, "m")}, "m")
		}},
	} {
		h := maker{t, fresh(t, 30)}
		first := c.first(h)
		for root := range 4 {
			m := model{h.rooted(root, first), selves(c.keys...), c.depth}
			wantE(t, what, m.x.Check(), api.OK)
			m.wantAll(t, what)
		}
	}
}

// wantAll fails, if anything is told otherwise than the model has it.
func (m model) wantAll(t *testing.T, what any) {
	t.Helper()
	for _, key := range m.probes() {
		c, i := m.at(t, what, key)
		for range len(m.entries) + 2 {
			i = m.next(t, what, c, i)
		}
		for range len(m.entries) + 2 {
			i = m.prev(t, what, c, i)
		}
		m.wantRange(t, key, "")
		m.wantRange(t, "", key)
	}
}

// P13.1 to P13.5: any trees as the words have them.
func TestTreesOfOthers(t *testing.T) {
	for seed := range uint64(80) {
		row := fixedRow(300 + seed)
		h := maker{t, fresh(t, 900)}
		next := 0
		x := h.rooted(0, h.anyNode(row, 1+row.IntN(4), &next))
		wantE(t, seed, x.Check(), api.OK)
		l, height, _ := plain(h.a, 0)
		m := model{x, l, height}
		c, i := m.at(t, seed, "")
		for range len(l) + 1 {
			i = m.next(t, seed, c, i)
		}
		for range len(l) + 1 {
			i = m.prev(t, seed, c, i)
		}
		for range 20 {
			low, high := numbered(row.IntN(next+2), 5), numbered(row.IntN(next+2), 5)
			m.at(t, seed, low)
			m.wantRange(t, low, high)
		}
		m.wantRange(t, "", "")
	}
}

// anyNode tells the page of a node that lies so high above its leaves, whose keys stand from next on.
func (h maker) anyNode(row *rand.Rand, height int, next *int) int {
	var cells, keys []string
	var kids []int
	for i := range row.IntN(4) + min(height-1, 1) {
		key := numbered(*next, 5)
		*next++
		switch {
		case height > 1 && i > 0:
			keys = append(keys, key)
			fallthrough
		case height > 1:
			kids = append(kids, h.anyNode(row, height-1, next))
		case row.IntN(4) > 0:
			cells = append(cells, cell(key, textOf(row.IntN(100))))
		default:
			cells = append(cells, over(key, h.page(3, low4(h.page(3, low4(0)+textOf(9)))+textOf(200)), 209))
		}
	}
	if height > 1 {
		return h.branch(kids, keys...)
	}
	return h.page(2, leaf(cells...))
}

// P13.1, P13.3, P13.4, P13.5: pages that are nodes, each of them, and no tree: what is told rises up to where they are none, and then ErrForm.
func TestNodesButNoTree(t *testing.T) {
	for what, c := range map[string]struct {
		told  []string
		first func(h maker) int
	}{
		"leaves changed":     {nil, func(h maker) int { return h.branch([]int{h.leaf("b"), h.leaf("a")}, "b") }},
		"a key in both":      {nil, func(h maker) int { return h.branch([]int{h.leaf("a", "b"), h.leaf("b")}, "b") }},
		"a key too low":      {[]string{"a"}, func(h maker) int { return h.branch([]int{h.leaf("a"), h.leaf("b", "d")}, "c") }},
		"a key too high":     {nil, func(h maker) int { return h.branch([]int{h.leaf("a", "c"), h.leaf("d")}, "c") }},
		"between, too low":   {[]string{"a"}, func(h maker) int { return h.branch([]int{h.leaf("a"), h.leaf("b"), h.leaf("e")}, "c", "e") }},
		"between, too high":  {[]string{"a"}, func(h maker) int { return h.branch([]int{h.leaf("a"), h.leaf("c", "e"), h.leaf("f")}, "c", "e") }},
		"a deep leaf second": {[]string{"a"}, func(h maker) int { return h.branch([]int{h.leaf("a"), h.branch([]int{h.leaf("b")})}, "b") }},
		"a deep leaf first":  {[]string{"a"}, func(h maker) int { return h.branch([]int{h.branch([]int{h.leaf("a")}), h.leaf("b")}, "b") }},
		"unequal, and empty": {nil, func(h maker) int { return h.branch([]int{h.leaf(), h.branch([]int{h.leaf("b")})}, "b") }},
		"a leaf that two have": {[]string{"a"}, func(h maker) int {
			one := h.leaf("a")
			return h.branch([]int{one, one}, "b")
		}},
		"an empty leaf that two have": {nil, func(h maker) int {
			one := h.leaf()
			return h.branch([]int{one, one, h.leaf("x")}, "m", "x")
		}},
		"an empty branch that two have": {nil, func(h maker) int {
			one := h.branch([]int{h.leaf()})
			return h.branch([]int{one, one, h.branch([]int{h.leaf("x")})}, "m", "x")
		}},
		"a branch's key too low": {[]string{"a"}, func(h maker) int {
			return h.branch([]int{h.branch([]int{h.leaf("a")}), h.branch([]int{h.leaf(), h.leaf("m")}, "l")}, "m")
		}},
		"a branch's key too high": {nil, func(h maker) int {
			return h.branch([]int{h.branch([]int{h.leaf("a"), h.leaf()}, "n"), h.branch([]int{h.leaf("m")})}, "m")
		}},
		"a branch's key at the bound above": {nil, func(h maker) int {
			return h.branch([]int{h.branch([]int{h.leaf("a"), h.leaf()}, "m"), h.branch([]int{h.leaf("m")})}, "m")
		}},
		"a key two levels above its bound": {[]string{"a"}, func(h maker) int {
			return h.branch([]int{h.branch([]int{h.leaf("a"), h.leaf("c", "m")}, "b"), h.branch([]int{h.leaf("n")})}, "m")
		}},
		"a key two levels below its bound": {[]string{"a", "c"}, func(h maker) int {
			return h.branch([]int{h.branch([]int{h.leaf("a"), h.leaf("c")}, "b"), h.branch([]int{h.leaf("l"), h.leaf("o")}, "o")}, "m")
		}},
	} {
		h := maker{t, fresh(t, 30)}
		x := h.rooted(0, c.first(h))
		wantE(t, what, x.Check(), api.ErrForm)
		was := imageOf(h.a)
		wantCut(t, what, x, "", "", selves(c.told...), api.ErrForm)
		if len(c.told) == 0 {
			wantNone(t, what, x, "", api.ErrForm)
		}
		wantSame(t, what, h.a, was)
	}
}

// P13.3: from behind the last one down, where the pages are no tree.
func TestNoTreeFromBehind(t *testing.T) {
	for what, first := range map[string]func(h maker) int{
		"unequally deep":       func(h maker) int { return h.branch([]int{h.branch([]int{h.leaf("a")}), h.leaf("b")}, "b") },
		"a key too high":       func(h maker) int { return h.branch([]int{h.leaf("a", "b"), h.leaf("b")}, "b") },
		"a leaf that two have": func(h maker) int { one := h.leaf("b"); return h.branch([]int{one, one}, "b") },
		"not there":            func(h maker) int { return h.branch([]int{19, h.leaf("b")}, "b") },
		"empty ones in a row": func(h maker) int {
			one := h.leaf()
			return h.branch([]int{one, one, h.leaf("b")}, "a", "b")
		},
	} {
		h := maker{t, fresh(t, 30)}
		m := model{x: h.rooted(0, first(h)), entries: selves("0", "b"), height: 2}
		c, e := At(m.x, "z")
		wantE(t, what, e, api.OK)
		wantE(t, what+": Prev", c.Prev(), api.OK)
		m.height = c.Depth()
		m.wantStays(t, what, c, 1, c.Prev)
		wantE(t, what+": Next", c.Next(), api.OK)
		if c.Valid() {
			t.Errorf("%s: it stands at %q", what, c.Key())
		}
	}
}

// P13.1, P13.4: ways that come back to themselves end.
func TestRings(t *testing.T) {
	for what, bodies := range map[string]func(ids []int) []string{
		"itself":              func(ids []int) []string { return []string{branch(ids[:1])} },
		"itself, ahead":       func(ids []int) []string { return []string{branch(ids[:2], "m"), leafOf("n")} },
		"two":                 func(ids []int) []string { return []string{branch(ids[1:2]), branch(ids[:1])} },
		"three":               func(ids []int) []string { return []string{branch(ids[1:2]), branch(ids[2:3]), branch(ids[:1])} },
		"below the first one": func(ids []int) []string { return []string{branch(ids[1:2]), branch(ids[2:3]), branch(ids[1:2])} },
	} {
		h := maker{t, fresh(t, 30)}
		ids := []int{h.leaf(), h.leaf(), h.leaf()}
		for i, body := range bodies(ids) {
			h.write(ids[i], 2, body)
		}
		for _, key := range []string{"", "a", "l"} {
			wantNone(t, what, h.rooted(0, ids[0]), key, api.ErrForm)
		}
	}
	h := maker{t, fresh(t, 30)}
	first := h.leaf()
	h.write(first, 2, branch([]int{h.leaf("a"), first}, "m"))
	m := model{h.rooted(0, first), selves("a"), 2}
	wantCut(t, "itself, behind", m.x, "", "", m.entries, api.ErrForm)
	c, i := m.at(t, "itself, behind", "")
	m.wantStays(t, "itself, behind", c, i, c.Next)
	wantNone(t, "itself, behind", m.x, "m", api.ErrForm)
}

// P13.1, P13.3, P13.4: pages that so many others share that no one could go through all ways: calls end soon.
func TestSharedDown(t *testing.T) {
	for what, last := range map[string]func(h maker) int{
		"an empty leaf": func(h maker) int { return h.leaf() },
		"a leaf":        func(h maker) int { return h.leaf("m5") },
		"nothing":       func(h maker) int { return 1<<31 - 1 },
		"one kid":       func(h maker) int { return h.branch([]int{h.branch([]int{h.leaf()})}) },
	} {
		for name, key := range map[string]func(i int) string{
			"one key":      func(i int) string { return "m" },
			"rising keys":  func(i int) string { return numbered(i, 5) },
			"falling keys": func(i int) string { return numbered(999-i, 5) },
		} {
			h := maker{t, fresh(t, 200)}
			id := last(h)
			for i := range 100 {
				id = h.branch([]int{id, id, id}, key(i)+"a", key(i)+"b")
			}
			x := h.rooted(0, id)
			for _, k := range []string{"", "0", "m", "m4", "m5", "mb", "n", "\xff"} {
				if c, e := At(x, k); e == api.OK {
					for range 3 {
						c.Prev()
					}
					for range 6 {
						c.Next()
					}
				}
				if l, e := All(x, k, ""); e != api.OK && len(l) > 0 || e == api.OK && len(l) > 1 {
					t.Errorf("%s, %s: All(%q): %v, %d", what, name, k, l, e)
				}
			}
			if l := gather(Range(x, "", "")); len(l) > 1 {
				t.Errorf("%s, %s: %v", what, name, l)
			}
		}
	}
}

// P13.1, P13.3: a way as deep as there are pages.
func TestDeep(t *testing.T) {
	const deep = 400
	h := maker{t, fresh(t, deep+20)}
	id := h.leaf("a", "b", "c")
	for range deep - 1 {
		id = h.branch([]int{id})
	}
	model{h.rooted(0, id), selves("a", "b", "c"), deep}.wantAll(t, "deep")
}

// P13.1 to P13.5, rule 1: pages that were a tree, and were changed somewhere: all calls end; where they are a tree yet it is told as it is, else what is told rises, and All tells it whole or tells an error.
func TestAnyPages(t *testing.T) {
	trees, others, refused := 0, 0, 0
	for seed := range uint64(500) {
		row := fixedRow(1000 + seed)
		a := fresh(t, 300)
		grown(t, a, 0, many(10+row.IntN(40), 100+row.IntN(41), 1200))
		h, x := maker{t, a}, btree.Of(a, 0)
		pages, e := x.Pages()
		wantE(t, "Pages", e, api.OK)
		for range 1 + row.IntN(3) {
			h.harm(row, pages+1)
		}
		was := imageOf(a)
		if l, height, isTree := plain(a, 0); isTree {
			trees++
			model{x, l, height}.wantRange(t, "", "")
		} else {
			others++
		}
		got := gather(Range(x, "", ""))
		for i := 1; i < len(got); i++ {
			if got[i-1].Key >= got[i].Key {
				t.Fatalf("seed %d: %.40q ahead of %.40q", seed, got[i-1].Key, got[i].Key)
			}
		}
		all, e := All(x, "", "")
		n, f := Count(x, "", "")
		if e != f || n != len(all) || e != api.OK && (e != api.ErrForm || n != 0) || e == api.OK && n != len(got) {
			t.Fatalf("seed %d: Range %d, All %d, %d, Count %d, %d", seed, len(got), len(all), e, n, f)
		}
		if e != api.OK {
			refused++
		}
		for range 10 {
			anyMoves(t, row, x)
		}
		wantSame(t, seed, a, was)
	}
	if trees < 20 || others < 100 || refused < 100 {
		t.Errorf("%d trees, %d others, %d refused", trees, others, refused)
	}
}

// anyMoves moves a cursor to and fro over pages that are perhaps no tree.
func anyMoves(t *testing.T, row *rand.Rand, x *btree.Tree) {
	t.Helper()
	c, e := At(x, numbered(row.IntN(60), 5))
	if e != api.OK {
		if c != nil || e != api.ErrForm {
			t.Fatalf("At: %v, %d", c, e)
		}
		return
	}
	for range 30 {
		key, depth, valid := c.Key(), c.Depth(), c.Valid()
		var e api.Errno
		forth := row.IntN(2) == 0
		if forth {
			e = c.Next()
		} else {
			e = c.Prev()
		}
		switch {
		case e != api.OK && (c.Key() != key || c.Depth() != depth || c.Valid() != valid):
			t.Fatalf("error %d moved the cursor from %.40q to %.40q", e, key, c.Key())
		case e != api.OK && e != api.ErrForm && e != api.ErrState:
			t.Fatalf("error %d", e)
		case e == api.OK && forth && c.Valid() && c.Key() <= key, e == api.OK && !forth && valid && c.Key() >= key:
			t.Fatalf("from %.40q to %.40q, forth: %v", key, c.Key(), forth)
		}
	}
}

// harm changes something of some page below high.
func (h maker) harm(row *rand.Rand, high int) {
	h.t.Helper()
	id := 1 + row.IntN(high-1)
	kind, body, e := h.a.Read(id)
	if e != api.OK {
		return
	}
	other := 1 + row.IntN(high)
	switch n, _ := btree.Of(h.a, 0).Node(id); row.IntN(9) {
	case 0:
		h.a.Free(id)
	case 1:
		h.write(id, 5-kind, body)
	case 2:
		h.write(id, 2, branch([]int{other}))
	case 3:
		h.a.SetRoot(0, other)
	case 4:
		h.write(id, 2, leafOf(numbered(row.IntN(60), 5+row.IntN(70))))
	case 5:
		h.write(id, 3, low4(other)+textOf(row.IntN(497)))
	case 6, 7, 8:
		if len(n.Kids) > 0 {
			n.Kids[row.IntN(len(n.Kids))] = other
			h.write(id, 2, branch(n.Kids, n.Keys...))
		} else if kind == 3 {
			h.write(id, 3, body[:row.IntN(len(body)+1)])
		}
	}
}

// P13.2: how deep the stack is, for each height up to five, at each entry, and behind the last one.
func TestDepth(t *testing.T) {
	for want, n := range []int{0, 3, 6, 20, 40, 120} {
		m := grown(t, fresh(t, 400), 0, many(n, 140, 17))
		if m.height != want {
			t.Fatalf("%d entries: %d high", n, m.height)
		}
		c, i := m.at(t, fmt.Sprint(n, " entries"), "")
		for range n + 1 {
			i = m.next(t, n, c, i)
		}
		for range n + 1 {
			i = m.prev(t, n, c, i)
		}
	}
}
