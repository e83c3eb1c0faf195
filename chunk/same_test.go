package chunk

import (
	"strings"
	"testing"
	"unsafe"

	"aquifer/api"
	"aquifer/blake"
)

// upTo tells the numbers from 0 on, n of them.
func upTo(n int) []int {
	var l []int
	for i := range n {
		l = append(l, i)
	}
	return l
}

// P15.3: which chunks two have alike, written out by hand.
func TestSame(t *testing.T) {
	a, b, c := strings.Repeat("a", 64), strings.Repeat("b", 64), strings.Repeat("c", 64)
	wantSame(t, "", "")
	wantSame(t, "", "x")
	wantSame(t, "", a+b)
	wantSame(t, "x", "x", 0)
	wantSame(t, "x", "y")
	wantSame(t, "\x00", "")
	wantSame(t, "\x00", "\x00\x00")
	wantSame(t, "ab", "abc")
	wantSame(t, a, a, 0)
	wantSame(t, a, a[:63])
	wantSame(t, a, a+"a", 0)
	wantSame(t, a+b, a, 0)
	wantSame(t, a+b, b+a)
	wantSame(t, a+b, b)
	wantSame(t, a+b, a+b, 0, 1)
	wantSame(t, a+b+c, a+c+c, 0, 2)
	wantSame(t, a+b+c, c+b+a, 1)
	wantSame(t, a+b+"c", a+b+"d", 0, 1)
	wantSame(t, a+b+"c", a+b+"cc", 0, 1)
	wantSame(t, a+b+"c", a+c+"c", 0, 2)
	wantSame(t, a+b+"c", a+b+c, 0, 1)
	wantSame(t, a+b+"c", a+b, 0, 1)
	wantSame(t, a+b+c, a+b+c+"d", 0, 1, 2)
	wantSame(t, a+a, a, 0)
	wantSame(t, a+"\x00", a, 0)
	wantSame(t, strings.Repeat(a, 64), strings.Repeat(a, 64), upTo(64)...)
	wantSame(t, strings.Repeat(a, 65), strings.Repeat(a, 66), upTo(65)...)
}

// P15.3: one byte that is changed makes its own chunk another one, and no other.
func TestSameButOneByte(t *testing.T) {
	for _, n := range []int{1, 63, 64, 65, 128, 129, 1000, 4095, 4096} {
		s := textOf(n)
		for at := range n {
			other := []byte(s)
			other[at] ^= 1 << (at % 8)
			want := upTo(plainCount(n))
			want = append(want[:at/64], want[at/64+1:]...)
			wantSame(t, s, string(other), want...)
		}
	}
}

// P15.3: of contents of any lengths, of which some chunks are alike.
func TestSameOfAny(t *testing.T) {
	row := fixedRow()
	for range 3000 {
		a, b := anyText(row, row.IntN(4097)), []byte(anyText(row, row.IntN(4097)))
		for i := range plainCount(len(b)) {
			if at := 64 * i; row.IntN(2) == 0 && at < len(a) {
				copy(b[at:min(at+64, len(b))], a[at:])
			}
		}
		var want []int
		others := plainChunks(string(b))
		for i, piece := range plainChunks(a) {
			if i < len(others) && others[i] == piece {
				want = append(want, i)
			}
		}
		wantSame(t, a, string(b), want...)
	}
}

// P15.3: digests, at the edges of a block, and of more bytes than a content has.
func TestSum(t *testing.T) {
	for s, want := range map[string]string{
		"":    "69217a3079908094e11121d042354a7c1f55b6482ca1a51e1b250dfd1ed0eef9",
		"abc": "508c5e8c327c14e2e1a72ba34eeb452f37458b209ed63a294d999b4c86675982",
	} {
		if got := blake.Hex(Sum(s)); got != want {
			t.Errorf("Sum(%q) = %s, want %s", s, got, want)
		}
	}
	for _, n := range append(someLengths(), longLengths()...) {
		for _, s := range []string{textOf(n), noughts(n), anyText(fixedRow(), n)} {
			if Sum(s) != blake.Of([]byte(s)) {
				t.Errorf("Sum of %d bytes is another one", n)
			}
		}
	}
}

// lentText tells a text that stands in bytes which may be changed behind a call.
func lentText(n int) ([]byte, string) {
	b := []byte(textOf(n))
	return b, unsafe.String(unsafe.SliceData(b), n)
}

// Rule 5: what is handed in is not changed, and not kept: what was told stays when that memory is used for something else.
func TestNothingIsShared(t *testing.T) {
	for _, n := range []int{1, 64, 65, 200, 4096} {
		for what, call := range map[string]func(s string) (string, api.Errno){
			"Split":        func(s string) (string, api.Errno) { return Join(Split(s), n) },
			"Join":         func(s string) (string, api.Errno) { return Join(plainChunks(s), n) },
			"Write":        func(s string) (string, api.Errno) { return Write(s, n, "") },
			"Write of all": func(s string) (string, api.Errno) { return Write("", 0, s) },
			"Truncate":     func(s string) (string, api.Errno) { return Truncate(s, n) },
			"Read":         func(s string) (string, api.Errno) { return Read(s, 0, n) },
		} {
			b, s := lentText(n)
			got, e := call(s)
			if string(b) != textOf(n) {
				t.Errorf("%s of %d bytes changed them", what, n)
			}
			clear(b)
			wantText(t, what, got, e, textOf(n), api.OK)
		}
		b, s := lentText(n)
		l := Split(s)
		clear(b)
		wantJoined(t, l, textOf(n))
		b, s = lentText(min(n, 64))
		one, e := Join([]string{s}, len(s))
		clear(b)
		wantText(t, "Join of one", one, e, textOf(len(s)), api.OK)
	}
}

// Rule 5: what lies behind a list's length is neither read nor written, and the list stays as it is.
func TestListsStayAsTheyAre(t *testing.T) {
	room := []string{textOf(64), "x", "behind"}
	wantJoined(t, room[:2], textOf(64)+"x")
	wantUnjoined(t, "one less than lies in its memory", room[:1], 65, api.ErrForm)
	if room[0] != textOf(64) || room[1] != "x" || room[2] != "behind" {
		t.Errorf("the list was changed: %.200q", room)
	}
	first, second := Split(textOf(129)), Split(textOf(129))
	first[0] = "y"
	_ = append(first[:1], "z")
	wantJoined(t, second, textOf(129))
}
