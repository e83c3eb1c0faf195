package slot

import (
	"fmt"
	"math"
	"slices"
	"strings"
	"testing"

	"aquifer/api"
)

// wantMay fails, if a node is not told as one that may be, with as many bytes as it has.
func wantMay(t *testing.T, what any, n api.Node) {
	t.Helper()
	if !plainMay(n) {
		t.Fatalf("%v: by the words it may not be", what)
	}
	want := plainBytes(n)
	if e := Check(n); e != api.OK {
		t.Errorf("%v: Check: %d; %s", what, e, show(n))
	}
	if size := Size(n); size != len(want) {
		t.Errorf("%v: Size %d, want %d", what, size, len(want))
	}
	s, e := Encode(n)
	switch {
	case len(want) > 500 && (s != "" || e != api.ErrLong):
		t.Errorf("%v: Encode: %d bytes, error %d; want ErrLong", what, len(s), e)
	case len(want) <= 500 && (s != want || e != api.OK):
		t.Errorf("%v: Encode: %x, error %d; want %x", what, s, e, want)
	}
}

// wantMayNot fails, if any call takes a node as one that may be.
func wantMayNot(t *testing.T, what any, n api.Node) {
	t.Helper()
	if plainMay(n) {
		t.Fatalf("%v: by the words it may be", what)
	}
	if e := Check(n); e != api.ErrArg {
		t.Errorf("%v: Check: %d, want ErrArg; %s", what, e, show(n))
	}
	if size := Size(n); size != 0 {
		t.Errorf("%v: Size %d, want 0", what, size)
	}
	if s, e := Encode(n); s != "" || e != api.ErrArg {
		t.Errorf("%v: Encode: %x, error %d; want ErrArg", what, s, e)
	}
	wantWhole(t, what, n)
	other := leaf()
	if !n.Leaf {
		other = branch()
	}
	wantUnjoined(t, what, n, other, "z")
	wantUnjoined(t, what, other, n, "\x00")
}

// wantEither fails, if a node is not told as the words have it.
func wantEither(t *testing.T, what any, n api.Node) {
	t.Helper()
	if plainMay(n) {
		wantMay(t, what, n)
	} else {
		wantMayNot(t, what, n)
	}
}

// P11.1: nodes that may be, among them the least and the greatest ones.
func TestNodesThatMayBe(t *testing.T) {
	for i, n := range anyNodes() {
		wantMay(t, i, n)
		wantMay(t, i, hidden(n))
	}
}

// P11.1: keys of no byte, of 1, of MaxKey and of one more, in cells and in branches.
func TestLengthsOfKeys(t *testing.T) {
	may := map[int]bool{}
	for _, n := range []int{0, 1, 2, 127, 128, 139, 140, 141, 142, 157, 255, 256, 257, 396, 397, 70000} {
		key := strings.Repeat("k", n)
		for what, x := range map[string]api.Node{
			"alone":           bare(key),
			"with pages":      leaf(over(key, 7, 7)),
			"ahead":           bare(key, "l"),
			"behind":          bare("a", key),
			"branch's":        branch(key),
			"branch's ahead":  branch(key, "l"),
			"branch's behind": branch("a", key),
		} {
			wantEither(t, fmt.Sprint(what, " ", n), x)
			may[n] = may[n] || plainMay(x)
		}
	}
	if !may[1] || !may[140] || may[0] || may[141] {
		t.Error("by the words other keys may be")
	}
}

// P11.1: Key and Val together of MaxCell less three bytes, and of one more, for each length of a key.
func TestLengthsOfValues(t *testing.T) {
	for k := 1; k <= 140; k++ {
		for v := 150 - k; v <= 165-k; v++ {
			if v < 0 {
				continue
			}
			n := leaf(cell(textOf(k), textOf(v)))
			if k+v <= 157 {
				wantMay(t, fmt.Sprint(k, " and ", v), n)
			} else {
				wantMayNot(t, fmt.Sprint(k, " and ", v), n)
			}
		}
	}
	for _, v := range []int{255, 256, 257, 412, 413, 16384, 1 << 16, 1 << 20} {
		wantMayNot(t, v, leaf(cell("a", textOf(v))))
		wantMayNot(t, v, leaf(cell("a", ""), cell("b", textOf(v)), cell("c", "")))
	}
}

// someNumbers tells numbers about all bounds, among them those whose lowest bytes lie within them.
func someNumbers() []int {
	return []int{math.MinInt, math.MinInt + 1, -1<<32 + 1, -1 << 31, -2, -1, 0, 1, 2, 255, 256, 16383, 16384, 16385, 1 << 24, 1<<31 - 2, 1<<31 - 1, 1 << 31, 1<<31 + 1, 1<<32 - 1, 1 << 32, 1<<32 + 1, 1<<32 + 7, math.MaxInt - 1, math.MaxInt}
}

// P11.1: each Over with each Len, with a value and without.
func TestOverAndLen(t *testing.T) {
	for _, id := range someNumbers() {
		for _, length := range someNumbers() {
			for _, val := range []string{"", "x", "\x00", textOf(156), textOf(157)} {
				c := api.Cell{Key: "b", Val: val, Over: id, Len: length}
				may := id == 0 && length == 0 && len(val) < 157 || id > 0 && id < 1<<31 && length >= 0 && length <= 16384 && val == ""
				for _, n := range []api.Node{leaf(c), leaf(cell("a", "x"), c), leaf(c, over("c", 1, 1))} {
					if plainMay(n) != may {
						t.Fatal("by the words another cell may be")
					}
					wantEither(t, fmt.Sprint(id, " ", length, " ", len(val)), n)
				}
			}
		}
	}
}

// P11.1: 255 cells and keys, and one more.
func TestCounts(t *testing.T) {
	for _, n := range []int{0, 1, 2, 127, 128, 253, 254, 255, 256, 257, 300, 511, 512, 513, 1000} {
		if n <= 255 {
			wantMay(t, n, bare(rising(n)...))
			wantMay(t, n, branch(rising(n)...))
		} else {
			wantMayNot(t, n, bare(rising(n)...))
			wantMayNot(t, n, branch(rising(n)...))
		}
	}
}

// P11.1: keys that stand alike, that fall, at each place.
func TestOrders(t *testing.T) {
	for _, l := range [][]string{
		{"a", "a"}, {"b", "a"}, {"a", "b", "b"}, {"a", "a", "b"}, {"b", "a", "c"}, {"a", "c", "b"}, {"c", "b", "a"}, {"a", "b", "a"},
		{"ab", "a"}, {"a\x00", "a"}, {"a", "a\x00", "a\x00"}, {"\xff", "\x7f"}, {"\x80", "\x7f"}, {"b", "aa"}, {"\x01", "\x00"}, {"é", "z"},
	} {
		wantMayNot(t, l, bare(l...))
		wantMayNot(t, l, branch(l...))
	}
	for _, l := range [][]string{{"a", "ab"}, {"a", "a\x00", "a\x01"}, {"\x7f", "\x80", "\xff"}, {"B", "a"}, {"aa", "b"}, {"z", "é"}} {
		wantMay(t, l, bare(l...))
		wantMay(t, l, branch(l...))
	}
	for i := range 254 {
		alike, turned := rising(255), rising(255)
		alike[i+1] = alike[i]
		turned[i], turned[i+1] = turned[i+1], turned[i]
		for _, l := range [][]string{alike, turned} {
			wantMayNot(t, i, bare(l...))
			wantMayNot(t, i, branch(l...))
		}
	}
}

// P11.1: a kid too few, too many, and kids of all numbers at each place.
func TestKids(t *testing.T) {
	for keys := range 5 {
		for kids := range 9 {
			n := with(branch(rising(keys)...), make([]int, kids)...)
			for i := range n.Kids {
				n.Kids[i] = 5
			}
			if kids == keys+1 {
				wantMay(t, fmt.Sprint(keys, " keys, ", kids, " kids"), n)
			} else {
				wantMayNot(t, fmt.Sprint(keys, " keys, ", kids, " kids"), n)
			}
		}
		for i := range keys + 1 {
			for _, id := range someNumbers() {
				n := branch(rising(keys)...)
				n.Kids[i] = id
				if id >= 1 && id <= 1<<31-1 {
					wantMay(t, id, n)
				} else {
					wantMayNot(t, id, n)
				}
			}
		}
	}
	wantMayNot(t, "255 keys, 255 kids", with(branch(rising(255)...), slices.Repeat([]int{1}, 255)...))
	wantMayNot(t, "255 keys, 257 kids", with(branch(rising(255)...), slices.Repeat([]int{1}, 257)...))
	wantMay(t, "255 keys, 256 kids", with(branch(rising(255)...), slices.Repeat([]int{1}, 256)...))
}

// P11.1: a node is a leaf or a branch, as its Leaf says, and nothing of the other one.
func TestNodesOfBothKinds(t *testing.T) {
	cells := []api.Cell{cell("a", "x")}
	for what, n := range map[string]api.Node{
		"nothing":                     {},
		"keys alone":                  {Keys: []string{"a"}},
		"a leaf with a kid":           {Leaf: true, Kids: []int{1}},
		"a leaf with a key":           {Leaf: true, Keys: []string{"a"}},
		"a leaf with cells and a kid": {Leaf: true, Cells: cells, Kids: []int{1}},
		"a leaf with cells and a key": {Leaf: true, Cells: cells, Keys: []string{"a"}},
		"a leaf with a branch in it":  {Leaf: true, Keys: []string{"a"}, Kids: []int{1, 2}},
		"a leaf with all":             {Leaf: true, Cells: cells, Keys: []string{"a"}, Kids: []int{1, 2}},
		"a branch with cells alone":   {Cells: cells},
		"a branch with a cell":        {Cells: cells, Kids: []int{1}},
		"a branch with all":           {Cells: cells, Keys: []string{"a"}, Kids: []int{1, 2}},
		"a branch with no good cell":  {Cells: []api.Cell{{}}, Keys: []string{"a"}, Kids: []int{1, 2}},
		"a leaf with no good key":     {Leaf: true, Keys: []string{""}},
		"a leaf with kid 0":           {Leaf: true, Kids: []int{0}},
	} {
		wantMayNot(t, what, n)
	}
}

// P11.1: great lists are refused, and the call ends.
func TestGreatNodes(t *testing.T) {
	many := 1 << 18
	wantMayNot(t, "cells", api.Node{Leaf: true, Cells: make([]api.Cell, many)})
	wantMayNot(t, "keys", api.Node{Keys: make([]string, many), Kids: make([]int, many+1)})
	wantMayNot(t, "kids", api.Node{Kids: make([]int, many)})
	wantMayNot(t, "a leaf's kids", api.Node{Leaf: true, Kids: make([]int, many)})
	wantMayNot(t, "a great key", bare(strings.Repeat("a", 1<<22)))
	wantMayNot(t, "a great value", leaf(cell("a", strings.Repeat("a", 1<<22))))
	wantMayNot(t, "a great branch's key", branch(strings.Repeat("a", 1<<22)))
}
