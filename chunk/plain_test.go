package chunk

import (
	"math"
	"math/big"
	"math/rand/v2"
	"slices"
	"strings"
	"testing"

	"aquifer/api"
)

// What the document says of contents and their chunks, told byte by byte, without the program's own words: all tests hold the program against this.

// fixedRow tells numbers that are the same in each run.
func fixedRow() *rand.Rand {
	return rand.New(rand.NewPCG(15, 1))
}

// anyText tells n bytes of any value.
func anyText(row *rand.Rand, n int) string {
	b := make([]byte, n)
	for i := range b {
		b[i] = byte(row.Uint32())
	}
	return string(b)
}

// textOf tells n bytes that are not alike from chunk to chunk, and none of them a nought.
func textOf(n int) string {
	b := make([]byte, n)
	for i := range b {
		b[i] = byte((i*7+i/64*3+n)%255 + 1)
	}
	return string(b)
}

// noughts tells n bytes of 00.
func noughts(n int) string {
	return strings.Repeat("\x00", n)
}

// someLengths tells lengths that contents may have: those about the edges of the first chunks and of the last ones.
func someLengths() []int {
	return []int{0, 1, 2, 62, 63, 64, 65, 66, 100, 127, 128, 129, 191, 192, 193, 1000, 2048, 4031, 4032, 4033, 4094, 4095, 4096}
}

// longLengths tells lengths above those of contents.
func longLengths() []int {
	return []int{4097, 4098, 4159, 4160, 4161, 8192, 65536 + 7}
}

// belowNought tells numbers below 0, among them those whose lowest bits are a good number's.
func belowNought() []int {
	return []int{-1, -2, -63, -64, -65, -4095, -4096, -4097, math.MinInt32, math.MinInt32 - 1, -1 << 32, 64 - 1<<32, math.MinInt, math.MinInt + 1, math.MinInt + 64, math.MinInt + 4096}
}

// beyondAll tells numbers above all lengths of contents, among them those whose lowest bits are a good number's.
func beyondAll() []int {
	return []int{4097, 4098, 4160, 1 << 16, 1<<16 + 64, math.MaxInt32 - 1, math.MaxInt32, math.MaxInt32 + 1, 1 << 32, 1<<32 + 64, 1 << 57, 1<<57 + 1, 1 << 58, 1<<62 - 64, 1 << 62, math.MaxInt - 4097, math.MaxInt - 4096, math.MaxInt - 64, math.MaxInt - 63, math.MaxInt - 1, math.MaxInt}
}

// plainCount counts chunks in numbers without bounds.
func plainCount(size int) int {
	if size <= 0 {
		return 0
	}
	n := new(big.Int).Add(big.NewInt(int64(size)), big.NewInt(63))
	return int(n.Div(n, big.NewInt(64)).Int64())
}

// plainChunks cuts a text in chunks byte by byte.
func plainChunks(s string) []string {
	var l []string
	for i := range len(s) {
		if len(l) == 0 || len(l[len(l)-1]) == 64 {
			l = append(l, "")
		}
		l[len(l)-1] += s[i : i+1]
	}
	return l
}

// plainWritten tells byte by byte what a text is with data from off on.
func plainWritten(s string, off int, data string) string {
	at := map[int]byte{}
	n := max(len(s), off)
	for i := range len(s) {
		at[i] = s[i]
	}
	for i := range len(data) {
		at[off+i] = data[i]
		n = max(n, off+i+1)
	}
	b := make([]byte, n)
	for i, x := range at {
		b[i] = x
	}
	return string(b)
}

// plainCut tells byte by byte what a text is with n bytes.
func plainCut(s string, n int) string {
	var b []byte
	for i := range n {
		x := byte(0)
		if i < len(s) {
			x = s[i]
		}
		b = append(b, x)
	}
	return string(b)
}

// plainRead tells byte by byte what a text has from off on, n bytes at most.
func plainRead(s string, off, n int) string {
	var b []byte
	for i := off; i < len(s) && len(b) < n; i++ {
		b = append(b, s[i])
	}
	return string(b)
}

func wantCount(t *testing.T, size, want int) {
	t.Helper()
	if got := Count(size); got != want {
		t.Errorf("Count(%d) = %d, want %d", size, got, want)
	}
}

func wantBounds(t *testing.T, size, i, lo, hi int) {
	t.Helper()
	if gotLo, gotHi := Bounds(size, i); gotLo != lo || gotHi != hi {
		t.Errorf("Bounds(%d, %d) = %d, %d, want %d, %d", size, i, gotLo, gotHi, lo, hi)
	}
}

func wantSplit(t *testing.T, s string, want []string) {
	t.Helper()
	if got := Split(s); !slices.Equal(got, want) {
		t.Errorf("Split of %d bytes: %.200q, want %.200q", len(s), got, want)
	}
}

// wantText fails, if a call told other bytes, or another error; with an error it is to tell no bytes.
func wantText(t *testing.T, what string, got string, e api.Errno, want string, wantE api.Errno) {
	t.Helper()
	if got != want || e != wantE {
		t.Errorf("%s: %d bytes %.80q, %v, want %d bytes %.80q, %v", what, len(got), got, e, len(want), want, wantE)
	}
}

func wantSame(t *testing.T, a, b string, want ...int) {
	t.Helper()
	if got := Same(a, b); !slices.Equal(got, want) {
		t.Errorf("Same of %d and %d bytes: %v, want %v", len(a), len(b), got, want)
	}
	if got := Same(b, a); !slices.Equal(got, want) {
		t.Errorf("Same of %d and %d bytes: %v, want %v", len(b), len(a), got, want)
	}
}
