package page

import (
	"math"
	"strings"
	"testing"

	"aquifer/api"
)

// P9.4: what is sealed is opened as it was, and by no other number.
func TestSealedAndOpened(t *testing.T) {
	row := fixedRow()
	for range 20000 {
		id, kind, body := int(row.Uint32()>>1), 1+row.IntN(255), anyText(row, row.IntN(501))
		s := sealed(t, id, kind, body)
		wantOpened(t, id, s, kind, body)
		wantRefused(t, "another number", id^1<<row.IntN(64), s, api.ErrForm)
	}
	for _, id := range someIds() {
		for _, body := range someBodies() {
			s := sealed(t, id, 255, body)
			wantOpened(t, id, s, 255, body)
			for _, other := range append(noIds(), someIds()...) {
				if other != id {
					wantRefused(t, "another number", other, s, api.ErrForm)
				}
			}
		}
	}
}

// P9.4: bodies that are unlike have pages that are unlike, also where they differ in noughts at the end alone.
func TestUnlikeBodies(t *testing.T) {
	seen := map[string]int{}
	for n := range 501 {
		seen[sealed(t, 1, 1, noughts(n))]++
	}
	for id := range 300 {
		for kind := 1; kind < 4; kind++ {
			seen[sealed(t, id, kind, "a")]++
		}
	}
	if len(seen) != 501+900 {
		t.Errorf("%d pages", len(seen))
	}
}

// somePages tells pages to change bits of.
func somePages(t *testing.T) []string {
	t.Helper()
	return []string{sealed(t, 7, 1, "ab"), sealed(t, 7, 1, ""), sealed(t, 7, 255, textOf(500)), sealed(t, 7, 128, strings.Repeat("\xff", 250))}
}

// bitsChanged tells a page with the bits of pattern changed from the bit at on: bits stand side by side in the order in which the sum takes them in, the lowest of a byte first.
func bitsChanged(s string, at int, pattern uint32) string {
	b := []byte(s)
	for i := range 32 {
		if pattern>>i&1 == 1 {
			b[(at+i)/8] ^= 1 << ((at + i) % 8)
		}
	}
	return string(b)
}

// P9.4: each single bit that is changed is seen, whatever number is asked for.
func TestEachBit(t *testing.T) {
	for _, s := range somePages(t) {
		for bit := range 512 * 8 {
			b := []byte(s)
			b[bit/8] ^= 1 << (bit % 8)
			for _, id := range []int{7, 8, -1} {
				wantRefused(t, bit, id, string(b), api.ErrSum)
			}
		}
	}
}

// P9.4: bits side by side, from each place on, of each width up to 32: all of them, the first and the last alone, and some.
func TestBitsSideBySide(t *testing.T) {
	row := fixedRow()
	s := sealed(t, 7, 1, textOf(77))
	for at := range 512 * 8 {
		for width := 1; width <= 32 && at+width <= 512*8; width++ {
			whole := uint32(1<<width - 1)
			ends := uint32(1 | 1<<(width-1))
			for _, pattern := range []uint32{whole, ends, ends | row.Uint32()&whole} {
				wantRefused(t, at, 7, bitsChanged(s, at, pattern), api.ErrSum)
			}
		}
	}
}

// P9.4: 32 bits at the beginning, at the end and over the place where the sum begins, in many ways, among them the other page's number and the other sum.
func TestBitsAtTheEdges(t *testing.T) {
	row := fixedRow()
	for _, s := range somePages(t) {
		for at := 0; at+32 <= 512*8; at++ {
			if at > 64 && at < 508*8-64 {
				continue
			}
			for range 40 {
				wantRefused(t, at, 7, bitsChanged(s, at, row.Uint32()|1), api.ErrSum)
			}
		}
		for n := range uint32(2000) {
			for _, at := range []int{0, 508 * 8} {
				wantRefused(t, at, 7, bitsChanged(s, at, n+1), api.ErrSum)
				wantRefused(t, at, 7, bitsChanged(s, at, math.MaxUint32-n), api.ErrSum)
			}
		}
	}
}

// P9.4: each change of the two bytes ahead of the sum with the two first ones of it, a part of them.
func TestBitsOverTheSum(t *testing.T) {
	s := sealed(t, 7, 1, textOf(500))
	for n := uint64(1); n < 1<<32; n += 40507 {
		wantRefused(t, n, 7, bitsChanged(s, 506*8, uint32(n)), api.ErrSum)
	}
}

// P9.4: a byte anywhere in all ways in which it can be changed, and two beside each other at the edges of the parts.
func TestBytesChanged(t *testing.T) {
	s := sealed(t, 7, 1, textOf(77))
	for i := range 512 {
		for x := 1; x < 256; x++ {
			b := []byte(s)
			b[i] ^= byte(x)
			wantRefused(t, i, 7, string(b), api.ErrSum)
		}
	}
	for _, i := range []int{0, 4, 6, 507, 510} {
		for x := 1; x < 1<<16; x++ {
			wantRefused(t, i, 7, bitsChanged(s, i*8, uint32(x)), api.ErrSum)
		}
	}
}
