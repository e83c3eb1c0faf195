package chunk

import (
	"fmt"
	"math"
	"slices"
	"strings"
	"testing"

	"aquifer/api"
)

// The chapter's example.
func TestExample(t *testing.T) {
	wantCount(t, 64, 1)
	wantCount(t, 65, 2)
	wantBounds(t, 100, 1, 64, 100)
	s, e := Write("ab", 3, "x")
	wantText(t, "Write(ab, 3, x)", s, e, "ab\x00x", api.OK)
}

// P15.1: how many chunks, at the edges, written out by hand.
func TestCount(t *testing.T) {
	for _, c := range []struct{ size, want int }{
		{math.MinInt, 0}, {math.MinInt + 1, 0}, {-4097, 0}, {-65, 0}, {-64, 0}, {-63, 0}, {-1, 0}, {0, 0},
		{1, 1}, {2, 1}, {63, 1}, {64, 1}, {65, 2}, {127, 2}, {128, 2}, {129, 3},
		{4031, 63}, {4032, 63}, {4033, 64}, {4095, 64}, {4096, 64}, {4097, 65}, {4160, 65}, {4161, 66},
		{1 << 20, 1 << 14}, {1<<20 + 1, 1<<14 + 1}, {math.MaxInt32, 1 << 25}, {1 << 62, 1 << 56}, {1<<62 + 1, 1<<56 + 1},
		{math.MaxInt - 64, 1<<57 - 1}, {math.MaxInt - 63, 1<<57 - 1}, {math.MaxInt - 62, 1 << 57}, {math.MaxInt, 1 << 57},
	} {
		wantCount(t, c.size, c.want)
	}
}

// P15.1: how many chunks, of all sizes that contents have, of those above, and of any numbers.
func TestCountOfAll(t *testing.T) {
	for size := -200; size <= 9000; size++ {
		wantCount(t, size, plainCount(size))
	}
	for _, size := range slices.Concat(belowNought(), beyondAll()) {
		wantCount(t, size, plainCount(size))
	}
	row := fixedRow()
	for range 20000 {
		size := int(row.Uint64()) >> row.IntN(64)
		wantCount(t, size, plainCount(size))
	}
}

// P15.1: where chunks begin and end, at the edges, written out by hand.
func TestBounds(t *testing.T) {
	for _, c := range []struct{ size, i, lo, hi int }{
		{1, 0, 0, 1}, {63, 0, 0, 63}, {64, 0, 0, 64}, {65, 0, 0, 64}, {65, 1, 64, 65}, {128, 1, 64, 128}, {129, 2, 128, 129},
		{4095, 0, 0, 64}, {4095, 63, 4032, 4095}, {4096, 0, 0, 64}, {4096, 62, 3968, 4032}, {4096, 63, 4032, 4096},
		{0, 0, 0, 0}, {0, 1, 0, 0}, {0, -1, 0, 0}, {1, 1, 0, 0}, {64, 1, 0, 0}, {65, 2, 0, 0}, {4096, 64, 0, 0}, {4096, -1, 0, 0},
		{-1, 0, 0, 0}, {-64, -1, 0, 0}, {-65, 0, 0, 0}, {-65, -1, 0, 0}, {math.MinInt, 0, 0, 0}, {math.MinInt, math.MinInt, 0, 0},
		{4097, 0, 0, 0}, {4097, 63, 0, 0}, {4097, 64, 0, 0}, {4160, 64, 0, 0}, {math.MaxInt, 0, 0, 0}, {math.MaxInt, 1<<57 - 1, 0, 0}, {math.MaxInt, math.MaxInt, 0, 0},
	} {
		wantBounds(t, c.size, c.i, c.lo, c.hi)
	}
}

// P15.1: the chunks of each size stand side by side from its first byte to its last one, and there are no others.
func TestBoundsOfAll(t *testing.T) {
	for size := range 4097 {
		end := 0
		for i := 0; end < size; i++ {
			next := min(end+64, size)
			wantBounds(t, size, i, end, next)
			end = next
		}
		wantBounds(t, size, -1, 0, 0)
		wantBounds(t, size, plainCount(size), 0, 0)
		wantBounds(t, size, plainCount(size)+1, 0, 0)
	}
	for _, size := range someLengths() {
		for _, i := range slices.Concat(belowNought(), beyondAll()) {
			wantBounds(t, size, i, 0, 0)
		}
	}
	for _, size := range slices.Concat(belowNought(), beyondAll()) {
		for _, i := range slices.Concat(belowNought(), beyondAll(), []int{0, 1, 63, 64}) {
			wantBounds(t, size, i, 0, 0)
		}
	}
}

// P15.1: the chunks of bytes, at the edges, written out by hand.
func TestSplit(t *testing.T) {
	a, b := strings.Repeat("a", 64), strings.Repeat("b", 64)
	wantSplit(t, "", nil)
	wantSplit(t, "x", []string{"x"})
	wantSplit(t, "\x00", []string{"\x00"})
	wantSplit(t, a[:63], []string{a[:63]})
	wantSplit(t, a, []string{a})
	wantSplit(t, a+"x", []string{a, "x"})
	wantSplit(t, a+b[:63], []string{a, b[:63]})
	wantSplit(t, a+b, []string{a, b})
	wantSplit(t, a+b+"\xff", []string{a, b, "\xff"})
	wantSplit(t, strings.Repeat(a, 64), slices.Repeat([]string{a}, 64))
}

// P15.1: the chunks of bytes of each length, and of more bytes than a content has.
func TestSplitOfAll(t *testing.T) {
	row := fixedRow()
	for n := range 4200 {
		s := anyText(row, n)
		wantSplit(t, s, plainChunks(s))
	}
	for _, n := range longLengths() {
		wantSplit(t, textOf(n), plainChunks(textOf(n)))
		wantSplit(t, noughts(n), plainChunks(noughts(n)))
	}
}

// wantJoined fails, if Join tells other bytes than these, or an error.
func wantJoined(t *testing.T, l []string, want string) {
	t.Helper()
	got, e := Join(l, len(want))
	wantText(t, fmt.Sprintf("Join of %d, %d", len(l), len(want)), got, e, want, api.OK)
}

// wantUnjoined fails, if Join tells anything but this error.
func wantUnjoined(t *testing.T, what string, l []string, size int, want api.Errno) {
	t.Helper()
	got, e := Join(l, size)
	wantText(t, fmt.Sprintf("Join of %d, %d (%s)", len(l), size, what), got, e, "", want)
}

// P15.1: chunks of each size are joined, and are those of no other size.
func TestJoin(t *testing.T) {
	wantJoined(t, nil, "")
	wantJoined(t, []string{}, "")
	wantJoined(t, []string{"x"}, "x")
	for n := range 4097 {
		s := textOf(n)
		l := plainChunks(s)
		wantJoined(t, l, s)
		for _, size := range []int{n - 64, n - 63, n - 2, n - 1, n + 1, n + 2, n + 63, n + 64} {
			if 0 <= size && size <= 4096 {
				wantUnjoined(t, "another size", l, size, api.ErrForm)
			}
		}
	}
	for _, n := range someLengths() {
		for _, size := range someLengths() {
			if n != size {
				wantUnjoined(t, "another size", plainChunks(textOf(n)), size, api.ErrForm)
			}
		}
	}
}

// P15.1: lists of other numbers or other lengths than a size has are refused.
func TestJoinOfWrongLists(t *testing.T) {
	for _, n := range someLengths() {
		l := plainChunks(textOf(n))
		wantUnjoined(t, "an empty chunk more", append(slices.Clone(l), ""), n, api.ErrForm)
		wantUnjoined(t, "an empty chunk ahead", append([]string{""}, l...), n, api.ErrForm)
		wantUnjoined(t, "a chunk more", append(slices.Clone(l), "x"), n, api.ErrForm)
		wantUnjoined(t, "a whole chunk more", append(slices.Clone(l), textOf(64)), n, api.ErrForm)
		wantUnjoined(t, "many empty chunks more", append(slices.Clone(l), make([]string, 100)...), n, api.ErrForm)
		for i := range l {
			wantUnjoined(t, "one less", slices.Delete(slices.Clone(l), i, i+1), n, api.ErrForm)
			for _, piece := range []string{"", l[i][1:], l[i] + "x", l[i] + "\x00", l[i] + textOf(64), textOf(4096) + "x"} {
				changed := slices.Clone(l)
				changed[i] = piece
				wantUnjoined(t, "another length of one", changed, n, api.ErrForm)
			}
		}
		for i := range len(l) - 1 {
			moved := slices.Clone(l)
			moved[i], moved[i+1] = l[i][:63], l[i][63:]+l[i+1]
			wantUnjoined(t, "a byte in the chunk behind", moved, n, api.ErrForm)
			moved[i], moved[i+1] = l[i]+l[i+1][:1], l[i+1][1:]
			wantUnjoined(t, "a byte in the chunk ahead", moved, n, api.ErrForm)
		}
	}
	wantUnjoined(t, "the short one ahead", []string{"x", textOf(64)}, 65, api.ErrForm)
	wantUnjoined(t, "no list", nil, 1, api.ErrForm)
	wantUnjoined(t, "no list", nil, 64, api.ErrForm)
	wantUnjoined(t, "no list", nil, 4096, api.ErrForm)
}

// P15.1: chunks are taken by their lengths alone, whatever their bytes.
func TestJoinOfAnyBytes(t *testing.T) {
	row := fixedRow()
	for range 500 {
		s := anyText(row, row.IntN(4097))
		wantJoined(t, plainChunks(s), s)
	}
	wantJoined(t, []string{noughts(64), noughts(3)}, noughts(67))
	wantJoined(t, []string{strings.Repeat("\xff", 64)}, strings.Repeat("\xff", 64))
}

// P15.1: a size that no content has is refused, and ahead of a list that is none.
func TestJoinOfWrongSizes(t *testing.T) {
	for _, size := range slices.Concat(belowNought(), beyondAll()) {
		for _, l := range [][]string{nil, {""}, {"x"}, plainChunks(textOf(64)), plainChunks(textOf(4096)), plainChunks(textOf(4097)), plainChunks(textOf(4160)), make([]string, 200)} {
			wantUnjoined(t, "no size", l, size, api.ErrArg)
		}
	}
	for _, n := range longLengths() {
		wantUnjoined(t, "chunks of too many bytes", plainChunks(textOf(n)), n, api.ErrArg)
		wantUnjoined(t, "chunks of too many bytes", plainChunks(textOf(n)), 4096, api.ErrForm)
	}
}
