package slot

import (
	"fmt"
	"math"
	"slices"
	"strings"
	"testing"

	"aquifer/api"
)

// wantSplit fails, if Split tells other parts, another key, or an error.
func wantSplit(t *testing.T, what any, n, left, right api.Node, key string) {
	t.Helper()
	l, r, k, e := Split(n)
	if k != key || e != api.OK {
		t.Errorf("%v: Split: key %.20q, error %d; want %.20q", what, k, e, key)
	}
	wantNode(t, what, l, left)
	wantNode(t, what, r, right)
}

// wantWhole fails, if Split tells anything but ErrArg.
func wantWhole(t *testing.T, what any, n api.Node) {
	t.Helper()
	l, r, k, e := Split(n)
	if k != "" || e != api.ErrArg {
		t.Errorf("%v: Split: key %.20q, error %d; want ErrArg", what, k, e)
	}
	wantNode(t, what, l, api.Node{})
	wantNode(t, what, r, api.Node{})
}

// wantJoined fails, if Join tells another node, or an error.
func wantJoined(t *testing.T, what any, left, right api.Node, key string, want api.Node) {
	t.Helper()
	n, e := Join(left, right, key)
	if e != api.OK {
		t.Errorf("%v: Join: error %d", what, e)
	}
	wantNode(t, what, n, want)
}

// wantUnjoined fails, if Join tells anything but ErrArg.
func wantUnjoined(t *testing.T, what any, left, right api.Node, key string) {
	t.Helper()
	n, e := Join(left, right, key)
	if e != api.ErrArg {
		t.Errorf("%v: Join with %.20q: error %d, want ErrArg", what, key, e)
	}
	wantNode(t, what, n, api.Node{})
}

// sized tells a leaf whose cells have these many bytes each, from 4 to 160.
func sized(sizes ...int) api.Node {
	n := leaf()
	for i, s := range sizes {
		key := rising(i + 1)[i][1:]
		n.Cells = append(n.Cells, cell(key, textOf(s-4)))
	}
	return n
}

// keyed tells a branch whose keys have these many bytes each, with the kid behind them, from 6 to 145.
func keyed(sizes ...int) api.Node {
	n := branch(make([]string, len(sizes))...)
	for i, s := range sizes {
		n.Keys[i] = rising(i + 1)[i][1:] + textOf(s-6)
	}
	return n
}

// P11.4: leaves of one, two and three cells, branches of two, three and four keys; the third one is the chapter's example.
func TestSplitOfSmallNodes(t *testing.T) {
	wantWhole(t, "no cell", leaf())
	wantWhole(t, "one cell", leaf(cell("a", textOf(156))))
	wantSplit(t, "three cells", bare("a", "b", "c"), bare("a"), bare("b", "c"), "b")
	wantSplit(t, "two cells", bare("a", "b"), bare("a"), bare("b"), "b")
	wantSplit(t, "two unlike cells", leaf(cell("a", ""), cell("b", textOf(156))), bare("a"), leaf(cell("b", textOf(156))), "b")
	wantSplit(t, "two unlike cells", leaf(cell("a", textOf(156)), cell("b", "")), leaf(cell("a", textOf(156))), bare("b"), "b")
	wantSplit(t, "four cells", bare("a", "b", "c", "d"), bare("a", "b"), bare("c", "d"), "c")
	wantWhole(t, "no key", branch())
	wantWhole(t, "one key", branch("a"))
	wantWhole(t, "two keys", branch("a", "b"))
	wantSplit(t, "three keys", branch("a", "b", "c"), with(branch("a"), 1, 2), with(branch("c"), 3, 4), "b")
	wantSplit(t, "four keys", branch("a", "b", "c", "d"), with(branch("a"), 1, 2), with(branch("c", "d"), 3, 4, 5), "b")
	wantSplit(t, "five keys", branch("a", "b", "c", "d", "e"), with(branch("a", "b"), 1, 2, 3), with(branch("d", "e"), 4, 5, 6), "c")
}

// P11.4: cells of unlike sizes; where several places are alike, the first one.
func TestSplitOfUnlikeCells(t *testing.T) {
	for _, f := range []struct {
		sizes []int
		k     int
	}{
		{[]int{160, 4, 4}, 1}, {[]int{4, 4, 160}, 2}, {[]int{4, 160, 4}, 1}, {[]int{10, 10, 10}, 1}, {[]int{10, 20, 10}, 1}, {[]int{11, 20, 10}, 1}, {[]int{10, 20, 11}, 2},
		{[]int{30, 10, 10, 10}, 1}, {[]int{10, 10, 10, 30}, 3}, {[]int{10, 10, 10, 10, 10}, 2}, {[]int{10, 20, 30, 40}, 3}, {[]int{40, 30, 20, 10}, 1}, {[]int{41, 30, 20, 9}, 1}, {[]int{39, 30, 20, 9}, 1}, {[]int{39, 30, 20, 31}, 2},
	} {
		n := sized(f.sizes...)
		left, right, key := plainParts(n, f.k)
		wantSplit(t, f.sizes, n, left, right, key)
	}
	// The key between the parts is in neither: where it is great, it goes.
	for _, f := range []struct {
		sizes []int
		k     int
	}{
		{[]int{10, 145, 10}, 1}, {[]int{10, 10, 10, 10}, 1}, {[]int{10, 10, 145, 10}, 2}, {[]int{10, 145, 10, 10}, 1}, {[]int{10, 20, 20, 10}, 1}, {[]int{10, 20, 21, 10}, 2}, {[]int{10, 21, 20, 10}, 1}, {[]int{6, 6, 6, 145}, 2}, {[]int{145, 6, 6, 6}, 1}, {[]int{20, 10, 10, 20}, 1}, {[]int{20, 10, 9, 20}, 1}, {[]int{20, 9, 10, 20}, 2},
	} {
		n := keyed(f.sizes...)
		left, right, key := plainParts(n, f.k)
		wantSplit(t, f.sizes, n, left, right, key)
	}
}

// P11.4: Split of any node is what trying each place comes to.
func TestSplitByTheWords(t *testing.T) {
	for i, n := range anyNodes() {
		left, right, key, there := plainSplit(n)
		if there {
			wantSplit(t, i, n, left, right, key)
			wantSplit(t, i, hidden(n), left, right, key)
		} else {
			wantWhole(t, i, n)
		}
	}
	row := fixedRow()
	for i := range 3000 {
		sizes := make([]int, 2+row.IntN(8))
		for j := range sizes {
			sizes[j] = 6 + row.IntN([]int{2, 5, 140}[i%3])
		}
		for _, n := range []api.Node{sized(sizes...), keyed(sizes...)} {
			if left, right, key, there := plainSplit(n); there {
				wantSplit(t, sizes, n, left, right, key)
			} else {
				wantWhole(t, sizes, n)
			}
		}
	}
}

// P11.5: what is split is joined as it was.
func TestJoinOfWhatWasSplit(t *testing.T) {
	for i, n := range anyNodes() {
		left, right, key, e := Split(n)
		if e == api.OK {
			wantJoined(t, i, left, right, key, n)
			wantJoined(t, i, hidden(left), hidden(right), key, n)
		}
	}
}

// P11.5: what is parted at any place is joined as it was.
func TestJoinOfAnyParts(t *testing.T) {
	for i, n := range anyNodes() {
		last := len(n.Cells) - 1
		if !n.Leaf {
			last = len(n.Keys) - 1
		}
		for k := 0; k <= min(last, 20); k++ {
			left, right, key := plainParts(n, k)
			wantJoined(t, i, left, right, key, n)
		}
	}
}

// P11.4: leaves whose keys meet, cross, or stand apart; the key between them is not asked for.
func TestJoinOfLeaves(t *testing.T) {
	for _, key := range []string{"", "c", "a", "z", textOf(141), strings.Repeat("k", 1<<20)} {
		wantJoined(t, "apart", leaf(cell("a", "x"), over("b", 1, 2)), leaf(cell("c", "z")), key, leaf(cell("a", "x"), over("b", 1, 2), cell("c", "z")))
		wantJoined(t, "side by side", bare("a"), bare("a\x00"), key, bare("a", "a\x00"))
		wantJoined(t, "none", leaf(), leaf(), key, leaf())
		wantJoined(t, "none on the left", leaf(), bare("a", "b"), key, bare("a", "b"))
		wantJoined(t, "none on the right", bare("a", "b"), leaf(), key, bare("a", "b"))
		wantUnjoined(t, "meet", bare("a", "b"), bare("b", "c"), key)
		wantUnjoined(t, "alike", bare("b"), bare("b"), key)
		wantUnjoined(t, "cross", bare("a", "c"), bare("b", "d"), key)
		wantUnjoined(t, "turned", bare("c", "d"), bare("a", "b"), key)
		wantUnjoined(t, "one inside", bare("a", "d"), bare("b", "c"), key)
	}
}

// P11.4: branches with a key between, with one that does not stand between, with none.
func TestJoinOfBranches(t *testing.T) {
	left, right := branch("b", "d"), with(branch("h", "k"), 7, 8, 9)
	for _, key := range []string{"d\x00", "e", "f", "gzz", "e" + textOf(139)} {
		wantJoined(t, key, left, right, key, with(branch("b", "d", key, "h", "k"), 1, 2, 3, 7, 8, 9))
	}
	for _, key := range []string{"", "a", "b", "c", "d", "h", "h\x00", "k", "z", "e" + textOf(140), strings.Repeat("f", 1<<20)} {
		wantUnjoined(t, key, left, right, key)
	}
	for _, key := range []string{"e", "d\x00"} {
		wantUnjoined(t, "turned", right, left, key)
	}
	wantUnjoined(t, "alike", left, left, "e")
	wantJoined(t, "without keys", with(branch(), 5), with(branch(), 5), "a", with(branch("a"), 5, 5))
	wantJoined(t, "the least key", with(branch(), 5), with(branch(), 6), "\x00", with(branch("\x00"), 5, 6))
	wantJoined(t, "the longest key", with(branch(), 5), with(branch(), 6), textOf(140), with(branch(textOf(140)), 5, 6))
	for _, key := range []string{"", textOf(141), textOf(256), textOf(257)} {
		wantUnjoined(t, "without keys", branch(), branch(), key)
	}
	wantJoined(t, "keys on the left alone", left, with(branch(), 9), "e", with(branch("b", "d", "e"), 1, 2, 3, 9))
	wantUnjoined(t, "keys on the left alone", left, branch(), "d")
	wantJoined(t, "keys on the right alone", with(branch(), 9), right, "a", with(branch("a", "h", "k"), 9, 7, 8, 9))
	wantUnjoined(t, "keys on the right alone", branch(), right, "h")
}

// P11.4: a leaf and a branch are not joined.
func TestJoinOfUnlikeNodes(t *testing.T) {
	for _, l := range []api.Node{leaf(), bare("a")} {
		for _, b := range []api.Node{branch(), branch("c")} {
			for _, key := range []string{"", "b", "c"} {
				wantUnjoined(t, "a leaf on the left", l, b, key)
				wantUnjoined(t, "a leaf on the right", b, l, key)
			}
		}
	}
	wantUnjoined(t, "nothing", api.Node{}, api.Node{}, "b")
}

// P11.4: the words set no bound to what comes of a Join: all cells, all keys, though such a node may not be.
func TestJoinOfMoreThanANodeMayHave(t *testing.T) {
	keys := rising(511)
	wantJoined(t, "255 cells", bare(keys[:128]...), bare(keys[128:255]...), "", bare(keys[:255]...))
	wantJoined(t, "256 cells", bare(keys[:128]...), bare(keys[128:256]...), "", bare(keys[:256]...))
	wantJoined(t, "510 cells", bare(keys[:255]...), bare(keys[255:510]...), "", bare(keys[:510]...))
	all := branch(keys...)
	for _, n := range []int{255, 256, 511} {
		k := n / 2
		left, right := with(branch(keys[:k]...), all.Kids[:k+1]...), with(branch(keys[k+1:n]...), all.Kids[k+1:n+1]...)
		wantJoined(t, fmt.Sprint(n, " keys"), left, right, keys[k], with(branch(keys[:n]...), all.Kids[:n+1]...))
	}
}

// wantRoom fails, if a node that a cell or key more brings above MaxBody has a part without room.
func wantRoom(t *testing.T, what any, had, has api.Node) {
	t.Helper()
	if Size(had) == 0 || Size(had) > 500 || Size(has) <= 500 {
		t.Fatalf("%v: from %d to %d bytes", what, Size(had), Size(has))
	}
	left, right, _, e := Split(has)
	if _, f := Encode(left); e != api.OK || f != api.OK {
		t.Errorf("%v: Split %d, left of %d bytes: %d", what, e, Size(left), f)
	}
	if _, f := Encode(right); f != api.OK {
		t.Errorf("%v: right of %d bytes: %d", what, Size(right), f)
	}
}

// P11.5: where a leaf has room, and with a cell more, or a greater one, has none, each part has.
func TestRoomOfALeafsParts(t *testing.T) {
	row := fixedRow()
	for i := range 6000 {
		var sizes []int
		all := 2
		for least := 4 + row.IntN(157); all < 500; {
			s := min(160, least+row.IntN(1+row.IntN(161)))
			if all+s > 500 {
				s = 500 - all
			}
			if s < 4 {
				break
			}
			sizes = append(sizes, s)
			all += s
		}
		had := sized(sizes...)
		for _, at := range []int{0, len(sizes) / 2, len(sizes)} {
			wantRoom(t, fmt.Sprint(i, " ", sizes, " at ", at), had, sized(slices.Insert(slices.Clone(sizes), at, 160)...))
		}
		at := row.IntN(len(sizes))
		greater := slices.Clone(sizes)
		greater[at] = 160
		if all-sizes[at]+160 > 500 {
			wantRoom(t, fmt.Sprint(i, " ", sizes, " greater at ", at), had, sized(greater...))
		}
	}
}

// P11.5: where a branch has room, and with a key more has none, each part has.
func TestRoomOfABranchsParts(t *testing.T) {
	row := fixedRow()
	for i := range 6000 {
		var sizes []int
		all := 6
		for least := 6 + row.IntN(140); all < 500; {
			s := min(145, least+row.IntN(1+row.IntN(140)))
			if all+s > 500 {
				s = 500 - all
			}
			if s < 6 {
				break
			}
			sizes = append(sizes, s)
			all += s
		}
		had := keyed(sizes...)
		for _, at := range []int{0, len(sizes) / 2, len(sizes)} {
			wantRoom(t, fmt.Sprint(i, " ", sizes, " at ", at), had, keyed(slices.Insert(slices.Clone(sizes), at, 145)...))
		}
	}
}

// P11.4: what is given stays as it was, and shares no memory with what comes; nor do the parts.
func TestSplitAndJoinGiveNewMemory(t *testing.T) {
	for i, n := range anyNodes()[:200] {
		stay(t, n, func(n api.Node) { Split(n) })
		given := fresh(n)
		left, right, key, e := Split(given)
		if e != api.OK {
			continue
		}
		wantApart(t, i, given, left, right, api.Node{Keys: []string{key}})
		stay(t, left, func(left api.Node) { Join(left, right, key) })
		stay(t, right, func(right api.Node) { Join(left, right, key) })
		whole, e := Join(left, right, key)
		if e != api.OK {
			t.Errorf("%d: Join: %d", i, e)
		}
		wantApart(t, i, left, right, whole, api.Node{Keys: []string{key}})
	}
	none, some := leaf(), fresh(bare("a", "b"))
	for _, l := range [][2]api.Node{{none, some}, {some, none}, {none, none}} {
		n, e := Join(l[0], l[1], "")
		if e != api.OK {
			t.Errorf("Join: %d", e)
		}
		wantApart(t, "with none", l[0], l[1], n)
	}
}

// P11.4: the same node and key on both sides do no harm.
func TestJoinWithItself(t *testing.T) {
	n := branch("b")
	stay(t, n, func(n api.Node) {
		wantUnjoined(t, "a branch with itself", n, n, "c")
	})
	n = with(branch(), math.MaxInt32)
	stay(t, n, func(n api.Node) {
		wantJoined(t, "a kid with itself", n, n, "c", with(branch("c"), math.MaxInt32, math.MaxInt32))
	})
}
