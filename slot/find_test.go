package slot

import (
	"fmt"
	"math"
	"slices"
	"strings"
	"testing"

	"aquifer/api"
)

// wantFound fails, if Find tells another place, or otherwise whether the key is there.
func wantFound(t *testing.T, n api.Node, key string, i int, there bool) {
	t.Helper()
	if j, is := Find(n, key); i != j || is != there {
		t.Errorf("Find of %.20q: %d, %v; want %d, %v; %s", key, j, is, i, there, show(n))
	}
}

// P11.2: a key ahead of all, each, between two, behind all, of no byte.
func TestFind(t *testing.T) {
	for _, f := range []struct {
		key         string
		leaf, kid   int
		there, kids bool
	}{
		{"", 0, 0, false, false}, {"a", 0, 0, false, false}, {"b", 0, 1, true, true}, {"b\x00", 1, 1, false, false}, {"c", 1, 1, false, false},
		{"d", 1, 2, true, true}, {"dd", 2, 2, false, false}, {"e", 2, 2, false, false}, {"f", 2, 3, true, true}, {"f\x00", 3, 3, false, false},
		{"g", 3, 3, false, false}, {"\xff", 3, 3, false, false}, {strings.Repeat("b", 1<<20), 1, 1, false, false},
	} {
		wantFound(t, bare("b", "d", "f"), f.key, f.leaf, f.there)
		wantFound(t, branch("b", "d", "f"), f.key, f.kid, f.kids)
	}
	for _, key := range []string{"", "a", "\xff"} {
		wantFound(t, leaf(), key, 0, false)
		wantFound(t, branch(), key, 0, false)
		wantFound(t, api.Node{}, key, 0, false)
	}
}

// P11.2: each key of great nodes, and what stands right ahead of and behind each.
func TestFindInGreatNodes(t *testing.T) {
	keys := rising(255)
	for i, key := range keys {
		wantFound(t, bare(keys...), key, i, true)
		wantFound(t, branch(keys...), key, i+1, true)
		wantFound(t, bare(keys...), key+"\x00", i+1, false)
		wantFound(t, branch(keys...), key+"\x00", i+1, false)
		ahead := slices.Delete(slices.Clone(keys), i, i+1)
		wantFound(t, bare(ahead...), key, i, false)
		wantFound(t, branch(ahead...), key, i, false)
	}
}

// P11.2: of any node, also one whose keys do not rise: the first that is not below, how many are not above.
func TestFindByTheWords(t *testing.T) {
	row := fixedRow()
	for range 4000 {
		keys := make([]string, row.IntN(6))
		for i := range keys {
			keys[i] = strings.Repeat(string(rune('a'+row.IntN(4))), row.IntN(3))
		}
		key := strings.Repeat(string(rune('a'+row.IntN(4))), row.IntN(3))
		place := slices.IndexFunc(keys, func(k string) bool { return k >= key })
		there := place >= 0 && keys[place] == key
		if place < 0 {
			place = len(keys)
		}
		n := bare(keys...)
		n.Keys, n.Kids = []string{"", key, "zz"}, []int{0}
		wantFound(t, n, key, place, there)
		count := 0
		for _, k := range keys {
			if strings.Compare(k, key) <= 0 {
				count++
			}
		}
		n = branch(keys...)
		n.Cells, n.Kids = []api.Cell{cell("", ""), cell(key, "")}, nil
		wantFound(t, n, key, count, slices.Contains(keys, key))
	}
}

// plainPut tells a leaf whose keys rise with the cell in it.
func plainPut(n api.Node, c api.Cell) api.Node {
	m := map[string]api.Cell{}
	for _, x := range append(slices.Clone(n.Cells), c) {
		m[x.Key] = x
	}
	out := leaf()
	for _, x := range m {
		out.Cells = append(out.Cells, x)
	}
	slices.SortFunc(out.Cells, func(a, b api.Cell) int { return strings.Compare(a.Key, b.Key) })
	return out
}

// someCells tells cells to be put, some of which may not be.
func someCells() []api.Cell {
	l := []api.Cell{cell("", ""), cell("", "x"), over("b", 9, 500), over("b", 0, 0), over("d", -1, math.MinInt), {Key: "d", Val: "x", Over: math.MaxInt, Len: math.MaxInt}, cell("c", textOf(200)), cell(textOf(300), ""), cell("\xff", "\x00")}
	for _, key := range []string{"a", "b", "b\x00", "c", "d", "e", "f", "g"} {
		l = append(l, cell(key, "new"), cell(key, ""), over(key, 3, 3))
	}
	return l
}

// P11.3: a new key at the front, in the middle, at the end, and one that is there; into a leaf of none, too.
func TestPut(t *testing.T) {
	for _, n := range []api.Node{leaf(), bare("b"), bare("b", "d"), leaf(cell("b", "x"), over("d", 9, 500), cell("f", "z"))} {
		for _, c := range someCells() {
			wantNode(t, fmt.Sprintf("Put of %.30v", c), Put(n, c), plainPut(n, c))
			wantNode(t, fmt.Sprintf("Put of %.30v", c), Put(hidden(n), c), plainPut(n, c))
		}
	}
	n := leaf(cell("b", "x"), cell("d", "y"))
	wantNode(t, "front", Put(n, cell("a", "1")), leaf(cell("a", "1"), cell("b", "x"), cell("d", "y")))
	wantNode(t, "middle", Put(n, cell("c", "1")), leaf(cell("b", "x"), cell("c", "1"), cell("d", "y")))
	wantNode(t, "end", Put(n, cell("e", "1")), leaf(cell("b", "x"), cell("d", "y"), cell("e", "1")))
	wantNode(t, "there", Put(n, cell("d", "1")), leaf(cell("b", "x"), cell("d", "1")))
	wantNode(t, "there, with a page", Put(n, over("b", 9, 1)), leaf(over("b", 9, 1), cell("d", "y")))
}

// P11.3: leaves that are put together cell by cell, in any order, up to more cells than a leaf may have.
func TestPutOneByOne(t *testing.T) {
	row := fixedRow()
	for range 6 {
		n := leaf()
		keys := rising(258)
		for i, k := range row.Perm(len(keys)) {
			c := cell(keys[k], textOf(i%20))
			want := plainPut(n, c)
			n = Put(n, c)
			wantNode(t, i, n, want)
			if may := i < 255; may != (Check(n) == api.OK) {
				t.Errorf("%d cells: Check: %d", i+1, Check(n))
			}
		}
	}
}

// P11.3: a leaf without the cell at each place; as it is, if there is none there.
func TestCut(t *testing.T) {
	for _, n := range []api.Node{leaf(), bare("b"), bare("b", "d"), leaf(cell("b", "x"), over("d", 9, 500), cell("f", "z")), bare(rising(255)...)} {
		for i := range n.Cells {
			want := leaf(slices.Concat(n.Cells[:i], n.Cells[i+1:])...)
			wantNode(t, i, Cut(n, i), want)
			wantNode(t, i, Cut(hidden(n), i), want)
		}
		for _, i := range []int{-1, -2, len(n.Cells), len(n.Cells) + 1, len(n.Cells) + 2, 1 << 32, math.MinInt, math.MaxInt} {
			wantNode(t, i, Cut(n, i), n)
			wantNode(t, i, Cut(hidden(n), i), n)
		}
	}
}

// P11.3: what was put is cut again.
func TestCutOfWhatWasPut(t *testing.T) {
	for i, n := range anyNodes() {
		for _, c := range someCells() {
			at, there := Find(n, c.Key)
			if n.Leaf && !there {
				wantNode(t, i, Cut(Put(n, c), at), n)
			}
		}
	}
}

// P11.3: a branch stays as it is, whatever it has.
func TestPutAndCutOfBranches(t *testing.T) {
	bad := []api.Node{{}, {Keys: []string{"b", "a", ""}, Kids: []int{-1}}, {Cells: []api.Cell{cell("b", "x"), cell("a", "")}, Keys: []string{"k"}, Kids: []int{0}}}
	for i, n := range append(bad, branch(), branch("b"), branch("b", "d"), branch(rising(255)...)) {
		for _, c := range someCells() {
			wantNode(t, i, Put(n, c), n)
		}
		for _, k := range []int{math.MinInt, -1, 0, 1, 2, 255, 256, math.MaxInt} {
			wantNode(t, i, Cut(n, k), n)
		}
	}
}

// P11.3: of leaves that may not be the words hold as well: in the place of the one with the key, or ahead of the first that is not below; the rest stays.
func TestPutAndCutOfWhatMayNotBe(t *testing.T) {
	n := bare("c", "a", "c", "")
	wantNode(t, "there", Put(n, cell("a", "x")), leaf(cell("c", ""), cell("a", "x"), cell("c", ""), cell("", "")))
	wantNode(t, "there twice", Put(n, cell("c", "x")), leaf(cell("c", "x"), cell("a", ""), cell("c", ""), cell("", "")))
	wantNode(t, "without a key", Put(n, cell("", "x")), leaf(cell("c", ""), cell("a", ""), cell("c", ""), cell("", "x")))
	wantNode(t, "not there", Put(n, cell("b", "x")), leaf(cell("b", "x"), cell("c", ""), cell("a", ""), cell("c", ""), cell("", "")))
	wantNode(t, "behind all", Put(n, cell("d", "x")), leaf(cell("c", ""), cell("a", ""), cell("c", ""), cell("", ""), cell("d", "x")))
	wantNode(t, "cut", Cut(n, 1), bare("c", "c", ""))
	both := api.Node{Leaf: true, Cells: []api.Cell{cell("a", "")}, Keys: []string{"k", ""}, Kids: []int{0, -1}}
	more := both
	more.Cells = []api.Cell{cell("a", ""), cell("b", "")}
	wantNode(t, "a leaf with keys", Put(both, cell("b", "")), more)
	wantNode(t, "a leaf with keys", Cut(more, 1), both)
	wantNode(t, "a leaf with keys", Cut(both, 1), both)
}

// P11.3: the node that was given stays as it was, and shares no memory with what comes.
func TestPutAndCutGiveNewMemory(t *testing.T) {
	for i, n := range anyNodes()[:100] {
		for _, c := range someCells() {
			stay(t, n, func(n api.Node) { Put(n, c) })
			given, put := fresh(n), fresh(leaf(c)).Cells[0]
			wantApart(t, fmt.Sprintf("%d, Put of %.30v", i, c), given, Put(given, put), leaf(put))
		}
		for k := -1; k <= min(len(n.Cells), 20); k++ {
			stay(t, n, func(n api.Node) { Cut(n, k) })
			given := fresh(n)
			wantApart(t, fmt.Sprint(i, ", Cut of ", k), given, Cut(given, k), Cut(given, k))
		}
		stay(t, n, func(n api.Node) { Find(n, "b") })
	}
}

// P11.3: nothing of what was cut lies behind the lists that come.
func TestNothingBehindTheLists(t *testing.T) {
	for _, n := range []api.Node{leaf(cell("b", "x"), over("d", 9, 500), cell("f", "z")), bare(rising(20)...)} {
		for i := range n.Cells {
			for _, x := range []api.Node{Cut(hidden(n), i), Put(hidden(n), cell(n.Cells[i].Key, "")), Put(hidden(n), cell(n.Cells[i].Key+"a", ""))} {
				for _, c := range x.Cells[len(x.Cells):cap(x.Cells)] {
					if c != (api.Cell{}) {
						t.Errorf("behind the list: %v", c)
					}
				}
			}
		}
	}
}
