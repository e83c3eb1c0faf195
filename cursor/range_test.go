package cursor

import (
	"fmt"
	"slices"
	"strings"
	"testing"

	"aquifer/api"
	"aquifer/btree"
)

// P13.4: low and high that are keys, that are none, empty, equal, and the wrong way round.
func TestRanges(t *testing.T) {
	eachShape(t, func(t *testing.T, what string, m model) {
		probes := m.probes()
		few := 1 + len(probes)/25
		for i := 0; i < len(probes); i += few {
			for k := 0; k < len(probes); k += few {
				m.wantRange(t, probes[i], probes[k])
			}
		}
		for i, low := range probes {
			m.wantRange(t, low, "")
			m.wantRange(t, "", low)
			m.wantRange(t, low, low)
			m.wantRange(t, low, probes[min(i+1, len(probes)-1)])
			m.wantRange(t, probes[min(i+1, len(probes)-1)], low)
		}
	})
}

// P13.4: all pairs of keys, of some that are there and some that are not.
func TestAllPairs(t *testing.T) {
	has := map[string]string{}
	for _, key := range []string{"b", "bb", "d", "f", "ff"} {
		has[key+strings.Repeat("=", 100)] = strings.ToUpper(key)
		has[key] = key
	}
	m := grown(t, fresh(t, 60), 3, has)
	for _, low := range m.probes() {
		for _, high := range m.probes() {
			m.wantRange(t, low, high)
		}
	}
	for i, one := range m.entries {
		if got, e := All(m.x, one.Key, one.Key+"\x00"); e != api.OK || !slices.Equal(got, m.entries[i:i+1]) {
			t.Errorf("All of %q alone: %v, %d", one.Key, got, e)
		}
	}
}

// P13.4: a range that is left early, at each place, and is gone over again then.
func TestLeftEarly(t *testing.T) {
	m := grown(t, fresh(t, 300), 0, many(50, 130, 20))
	low, high := numbered(3, 130), numbered(45, 130)
	want := m.within(low, high)
	seq := Range(m.x, low, high)
	for leave := 1; leave <= len(want)+1; leave++ {
		var got []api.Entry
		for key, val := range seq {
			got = append(got, api.Entry{Key: key, Val: val})
			if len(got) == leave {
				break
			}
		}
		if !slices.Equal(got, want[:min(leave, len(want))]) {
			t.Fatalf("left at %d: %s", leave, show(got))
		}
		if got := gather(seq); !slices.Equal(got, want) {
			t.Fatalf("again: %s", show(got))
		}
	}
}

// P13.4: what a range has yielded false to is not called again.
func TestNotCalledAgain(t *testing.T) {
	m := grown(t, fresh(t, 300), 0, many(20, 130, 20))
	for last := range 21 {
		calls := 0
		Range(m.x, "", "")(func(key, val string) bool {
			calls++
			if calls > last+1 {
				t.Fatalf("it was called %d times, false at %d", calls, last+1)
			}
			return calls <= last
		})
		if calls != min(last+1, 20) {
			t.Errorf("it was called %d times, false at %d", calls, last+1)
		}
	}
}

// P13.4: a range is gone over twice, within itself too; it tells the tree as it is when it is gone over.
func TestTwice(t *testing.T) {
	m := grown(t, fresh(t, 300), 0, many(20, 130, 20))
	seq := Range(m.x, "", "")
	outer := 0
	for key := range seq {
		if key != m.entries[outer].Key {
			t.Fatalf("at %d: %q", outer, key)
		}
		outer++
		if got := gather(seq); !slices.Equal(got, m.entries) {
			t.Fatalf("within: %s", show(got))
		}
	}
	if outer != 20 {
		t.Errorf("%d", outer)
	}
	wantE(t, "Put", m.x.Put("a", "new"), api.OK)
	if got := gather(seq); !slices.Equal(got, append(slices.Clone(m.entries), api.Entry{Key: "a", Val: "new"})) {
		t.Errorf("behind Put: %s", show(got))
	}
}

// P13.4: what All tells is new memory each time.
func TestAllIsNew(t *testing.T) {
	m := grown(t, fresh(t, 60), 0, many(20, 50, 20))
	first, _ := All(m.x, "", "")
	clear(first)
	m.wantRange(t, "", "")
	if second, _ := All(m.x, "", ""); len(first) != 20 || !slices.Equal(second, m.entries) {
		t.Errorf("%s", show(second))
	}
}

// P13.2, P13.4: values in cells and in chains, of each length that is an edge.
func TestValues(t *testing.T) {
	for _, key := range []int{1, 2, 139, 140} {
		has := map[string]string{}
		for i, val := range []int{0, 1, 16, 17, 18, 155, 156, 157, 158, 495, 496, 497, 992, 993, 1<<14 - 1, 1 << 14} {
			has[string(rune('A'+i))+strings.Repeat("k", key-1)] = textOf(val)
		}
		m := grown(t, fresh(t, 300), 0, has)
		m.wantRange(t, "", "")
		c, i := m.at(t, key, "")
		for range 17 {
			i = m.next(t, key, c, i)
		}
	}
}

// P13.2, P13.3, P13.4: a value whose chain is none: its key is told, and the cursor goes on; ranges end ahead of it.
func TestNoChain(t *testing.T) {
	const key, size = "m", 600
	for what, first := range map[string]func(h maker) int{
		"a page that is not there": func(h maker) int { return 19 },
		"no page of a disk":        func(h maker) int { return 1<<31 - 1 },
		"a page of a node":         func(h maker) int { return h.leaf("z") },
		"another kind":             func(h maker) int { return h.page(4, low4(0)+textOf(size-104)) },
		"too short":                func(h maker) int { return h.page(3, low4(h.page(3, low4(0)+textOf(size-497)))+textOf(496)) },
		"too long":                 func(h maker) int { return h.page(3, low4(h.page(3, low4(0)+textOf(size-495)))+textOf(496)) },
		"without an end":           func(h maker) int { return h.page(3, low4(19)+textOf(496)) },
		"no bytes":                 func(h maker) int { return h.page(3, "\x00\x00\x00") },
		"a ring": func(h maker) int {
			id := h.page(3, "")
			h.write(id, 3, low4(id))
			return id
		},
	} {
		h := maker{t, fresh(t, 20)}
		low := h.page(2, leaf(cell("a", "a"), cell("b", "b"), over(key, first(h), size), cell("n", "n")))
		x := h.rooted(0, h.branch([]int{low, h.leaf("p", "q")}, "o"))
		was := imageOf(h.a)
		c, e := At(x, "c")
		wantE(t, what+": At", e, api.OK)
		for range 2 {
			val, e := c.Val()
			if !c.Valid() || c.Key() != key || val != "" || e != api.ErrForm || c.Depth() != 2 {
				t.Errorf("%s: %v, %q, %.40q, %d", what, c.Valid(), c.Key(), val, e)
			}
		}
		wantE(t, what+": Next", c.Next(), api.OK)
		if val, e := c.Val(); c.Key() != "n" || val != "n" || e != api.OK {
			t.Errorf("%s: Next: %q, %q, %d", what, c.Key(), val, e)
		}
		wantE(t, what+": Prev", c.Prev(), api.OK)
		wantE(t, what+": Prev", c.Prev(), api.OK)
		if c.Key() != "b" {
			t.Errorf("%s: Prev: %q", what, c.Key())
		}
		wantCut(t, what, x, "", "", selves("a", "b"), api.ErrForm)
		wantCut(t, what, x, "b", "z", selves("b"), api.ErrForm)
		wantCut(t, what, x, key, "", nil, api.ErrForm)
		model{x, selves("a", "b"), 2}.wantRange(t, "", key)
		model{x, selves("n", "p", "q"), 2}.wantRange(t, key+"\x00", "")
		wantSame(t, what, h.a, was)
	}
}

// harms are what makes a leaf's page none, or no part of its tree.
func harms(t *testing.T, a maker, first int) map[string]func(id int) {
	return map[string]func(id int){
		"free":              func(id int) { wantE(t, "Free", a.a.Free(id), api.OK) },
		"another kind":      func(id int) { a.write(id, 3, leafOf("k")) },
		"no node":           func(id int) { a.write(id, 2, "\x03") },
		"no bytes":          func(id int) { a.write(id, 2, "") },
		"a page's rest":     func(id int) { a.write(id, 2, leafOf("k")+"x") },
		"keys ahead of all": func(id int) { a.write(id, 2, leafOf("\x00")) },
		"keys behind all":   func(id int) { a.write(id, 2, leafOf("\xff")) },
		"a kid too many":    func(id int) { a.write(id, 2, branch([]int{a.leaf()})) },
		"the first node":    func(id int) { a.write(id, 2, branch([]int{first})) },
		"itself":            func(id int) { a.write(id, 2, branch([]int{id})) },
	}
}

// P13.1, P13.3, P13.4: a tree whose pages are none from some entry on, for each leaf: ranges end ahead of it; a cursor comes up to it from both sides, is told the error, and stays.
func TestNoPageFromSomewhereOn(t *testing.T) {
	for _, n := range []int{9, 40} {
		count := len(leaves(t, grown(t, fresh(t, 300), 0, many(n, 140, 17)).x))
		for broken := range count {
			for what := range harms(t, maker{}, 0) {
				a := fresh(t, 300)
				m := grown(t, a, 0, many(n, 140, 17))
				all := leaves(t, m.x)
				node, _ := m.x.Node(all[broken])
				from := m.place(node.Cells[0].Key)
				to := from + len(node.Cells)
				harms(t, maker{t, a}, m.x.Root())[what](all[broken])
				// The keys ahead of all stand within the bounds of the first leaf, and those behind all within those of the last one, which has none behind it to tell how deep leaves lie.
				if what == "keys ahead of all" && broken == 0 || (what == "keys behind all" || what == "a kid too many") && broken == count-1 {
					continue
				}
				m.wantBroken(t, fmt.Sprint(n, " entries, leaf ", broken, ", ", what), from, to)
			}
		}
	}
}

// wantBroken fails, if the entries at from, up to to, can be told, or the others can't.
func (m model) wantBroken(t *testing.T, what string, from, to int) {
	t.Helper()
	if from == 0 {
		wantNone(t, what, m.x, "", api.ErrForm)
	} else {
		c, i := m.at(t, what, "")
		for i < from-1 {
			i = m.next(t, what, c, i)
		}
		m.wantStays(t, what+": Next", c, i, c.Next)
		wantNone(t, what, m.x, m.entries[from-1].Key+"\x00", api.ErrForm)
	}
	if to == len(m.entries) {
		wantNone(t, what, m.x, "\xff", api.ErrForm)
	} else {
		c, i := m.at(t, what, "\xff")
		for i > to {
			i = m.prev(t, what, c, i)
		}
		m.wantStays(t, what+": Prev", c, i, c.Prev)
	}
	for i := from; i < to; i++ {
		wantNone(t, what, m.x, m.entries[i].Key, api.ErrForm)
	}
	for _, low := range []int{0, from / 2} {
		if low < from {
			wantCut(t, what, m.x, m.entries[low].Key, "", m.entries[low:from], api.ErrForm)
			wantCut(t, what, m.x, m.entries[low].Key, "\xff", m.entries[low:from], api.ErrForm)
			// What comes behind the range is not there to be told of.
			model{m.x, m.entries[:from-1], m.height}.wantRange(t, m.entries[low].Key, m.entries[from-1].Key)
		}
	}
	if to < len(m.entries) {
		model{m.x, m.entries[to:], m.height}.wantRange(t, m.entries[to].Key, "")
	}
}

// wantStays fails, if a move does not tell ErrForm, or moves the cursor.
func (m model) wantStays(t *testing.T, what string, c *Cursor, i int, move func() api.Errno) {
	t.Helper()
	for range 3 {
		if e := move(); e != api.ErrForm {
			t.Fatalf("%s from %d: %d, want ErrForm", what, i, e)
		}
		m.wantAt(t, what, c, i)
	}
}

// P13.3: Next of the last entry ahead of what is none tells the error, and Prev from there goes back all the same.
func TestBackFromAnError(t *testing.T) {
	h := maker{t, fresh(t, 20)}
	x := h.rooted(0, h.branch([]int{h.leaf("a", "b"), h.leaf("c"), 19, h.leaf("x", "y")}, "c", "d", "x"))
	m := model{x, selves("a", "b", "c", "x", "y"), 2}
	c, i := m.at(t, "up", "")
	i = m.next(t, "up", c, m.next(t, "up", c, i))
	m.wantStays(t, "Next", c, i, c.Next)
	i = m.prev(t, "up", c, i)
	i = m.next(t, "up", c, i)
	m.wantStays(t, "Next", c, i, c.Next)
	c, i = m.at(t, "down", "z")
	i = m.prev(t, "down", c, m.prev(t, "down", c, i))
	m.wantStays(t, "Prev", c, i, c.Prev)
	i = m.next(t, "down", c, m.next(t, "down", c, i))
	i = m.next(t, "down", c, i)
	m.prev(t, "down", c, i)
}

// P13.4: low equal to high, and above it: no entry is told, but the error of no tree is.
func TestWrongWayRound(t *testing.T) {
	h := maker{t, fresh(t, 20)}
	m := model{h.rooted(0, h.leaf("a", "b", "c")), selves("a", "b", "c"), 1}
	m.wantRange(t, "b", "b")
	m.wantRange(t, "c", "a")
	m.wantRange(t, "z", "y")
	m.wantRange(t, "b", "a\xff")
	wantCut(t, "no tree", nil, "c", "a", nil, api.ErrNil)
	wantCut(t, "no tree", &btree.Tree{}, "c", "c", nil, api.ErrNil)
	wantCut(t, "no pages", h.rooted(1, 19), "c", "a", nil, api.ErrForm)
}
