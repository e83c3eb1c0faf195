package page

import (
	"math"
	"strings"
	"testing"
	"unsafe"

	"aquifer/api"
)

// The chapter's example.
func TestExample(t *testing.T) {
	s := sealed(t, 7, 1, "ab")
	if !strings.HasPrefix(s, "\x07\x00\x00\x00\x01\x00\x02\x00\x61\x62\x00") {
		t.Errorf("%x", s)
	}
	wantRefused(t, "another number", 8, s, api.ErrForm)
	wantOpened(t, 7, s, 1, "ab")
}

// P9.1: a page's bytes one by one, written out by hand.
func TestEachByteOfAPage(t *testing.T) {
	s := sealed(t, 0x01020304, 0xfe, textOf(0x0102))
	if len(s) != 512 {
		t.Fatalf("%d bytes", len(s))
	}
	for i, want := range []byte{4, 3, 2, 1, 0xfe, 0, 2, 1} {
		if s[i] != want {
			t.Errorf("byte %d: %02x, want %02x", i, s[i], want)
		}
	}
	for i, want := range []byte(textOf(0x0102)) {
		if s[8+i] != want {
			t.Errorf("byte %d: %02x, want %02x", 8+i, s[8+i], want)
		}
	}
	for i := 8 + 0x0102; i < 508; i++ {
		if s[i] != 0 {
			t.Errorf("byte %d: %02x, want 00", i, s[i])
		}
	}
	sum := plainSum(s[:508])
	for i := range 4 {
		if want := byte(sum >> (8 * i)); s[508+i] != want {
			t.Errorf("byte %d: %02x, want %02x", 508+i, s[508+i], want)
		}
	}
}

// P9.1: pages whose sum was worked out by other means than a table, as whole texts.
func TestWholePages(t *testing.T) {
	for _, c := range []struct {
		id, kind int
		body     string
		head     string
		sum      string
	}{
		{0, 1, "", "\x00\x00\x00\x00\x01\x00\x00\x00", "\xcf\x92\x29\x31"},
		{7, 1, "ab", "\x07\x00\x00\x00\x01\x00\x02\x00", "\x8a\x7c\x95\x20"},
		{300, 9, "hello", "\x2c\x01\x00\x00\x09\x00\x05\x00", "\x2d\x7b\x4a\x5c"},
		{1<<31 - 1, 255, noughts(500), "\xff\xff\xff\x7f\xff\x00\xf4\x01", "\x5b\x3c\xfa\x00"},
		{1<<31 - 1, 255, strings.Repeat("\xff", 500), "\xff\xff\xff\x7f\xff\x00\xf4\x01", "\x96\x45\xe3\xd0"},
	} {
		wantSealed(t, c.id, c.kind, c.body, c.head+c.body+noughts(500-len(c.body))+c.sum)
		wantOpened(t, c.id, c.head+c.body+noughts(500-len(c.body))+c.sum, c.kind, c.body)
	}
}

// P9.1: each number, kind and body that a page may have, the edges of each with those of all others.
func TestSealed(t *testing.T) {
	for _, id := range someIds() {
		for _, kind := range []int{1, 2, 3, 127, 128, 254, 255} {
			for _, body := range someBodies() {
				wantSealed(t, id, kind, body, of(id, kind, body).text())
			}
		}
	}
}

// P9.1: each kind from 1 to 255, and each bit of a number.
func TestSealedKindsAndNumbers(t *testing.T) {
	for kind := 1; kind <= 255; kind++ {
		wantSealed(t, 5, kind, "body", of(5, kind, "body").text())
	}
	for bit := range 31 {
		wantSealed(t, 1<<bit, 5, "body", of(1<<bit, 5, "body").text())
		wantSealed(t, 1<<31-1-1<<bit, 5, "body", of(1<<31-1-1<<bit, 5, "body").text())
	}
}

// P9.1: each length of a body, up to MaxBody; one more and all that are longer are too long.
func TestSealedLengths(t *testing.T) {
	for n := range 501 {
		wantSealed(t, 5, 6, textOf(n), of(5, 6, textOf(n)).text())
	}
	for _, n := range []int{501, 502, 503, 504, 508, 509, 511, 512, 513, 1000, 1<<16 - 1, 1 << 16, 1<<16 + 1, 1<<16 + 500, 1 << 20} {
		wantUnsealed(t, 5, 6, textOf(n), api.ErrLong)
		wantUnsealed(t, 5, 6, noughts(n), api.ErrLong)
	}
}

// P9.1: a number or a kind that is none is refused, and ahead of a body that is too long.
func TestSealRefusals(t *testing.T) {
	ids := append(noIds(), someIds()...)
	kinds := append(noKinds(), 1, 2, 254, 255)
	bodies := []string{"", "ab", textOf(500), textOf(501), textOf(70000)}
	for _, id := range ids {
		for _, kind := range kinds {
			for _, body := range bodies {
				wrong := id < 0 || id >= 1<<31 || kind <= 0 || kind >= 256
				switch {
				case wrong:
					wantUnsealed(t, id, kind, body, api.ErrArg)
				case len(body) > 500:
					wantUnsealed(t, id, kind, body, api.ErrLong)
				default:
					wantSealed(t, id, kind, body, of(id, kind, body).text())
				}
			}
		}
	}
}

// P9.1: the edges, one by one.
func TestSealEdges(t *testing.T) {
	for _, c := range []struct {
		id, kind, length int
		want             api.Errno
	}{
		{-1, 1, 0, api.ErrArg},
		{0, 1, 0, api.OK},
		{1<<31 - 1, 1, 0, api.OK},
		{1 << 31, 1, 0, api.ErrArg},
		{math.MinInt, 1, 0, api.ErrArg},
		{math.MaxInt, 1, 0, api.ErrArg},
		{0, 0, 0, api.ErrArg},
		{0, 255, 0, api.OK},
		{0, 256, 0, api.ErrArg},
		{0, math.MinInt, 0, api.ErrArg},
		{0, math.MaxInt, 0, api.ErrArg},
		{0, 1, 500, api.OK},
		{0, 1, 501, api.ErrLong},
		{-1, 1, 501, api.ErrArg},
		{0, 0, 501, api.ErrArg},
		{1 << 31, 256, 501, api.ErrArg},
	} {
		s, e := Seal(c.id, c.kind, textOf(c.length))
		if e != c.want || (e == api.OK) != (len(s) == 512) || (e != api.OK) != (s == "") {
			t.Errorf("Seal(%d, %d, %d bytes): %d bytes, error %d, want %d", c.id, c.kind, c.length, len(s), e, c.want)
		}
	}
}

// P9.1: a page has no memory in common with its body, and the body stays as it is.
func TestSealKeepsNothing(t *testing.T) {
	for _, n := range []int{1, 64, 500} {
		b := []byte(textOf(n))
		s := sealed(t, 5, 6, unsafe.String(&b[0], n))
		if string(b) != textOf(n) {
			t.Error("the body was changed")
		}
		clear(b)
		if s != of(5, 6, textOf(n)).text() {
			t.Error("the page was changed with the body")
		}
	}
}
