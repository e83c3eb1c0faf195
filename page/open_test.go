package page

import (
	"fmt"
	"math"
	"slices"
	"strings"
	"testing"
	"unsafe"

	"aquifer/api"
)

// P9.2: pages that were put together by hand are opened.
func TestOpened(t *testing.T) {
	for _, id := range someIds() {
		for _, kind := range []int{1, 2, 3, 127, 128, 254, 255} {
			for _, body := range someBodies() {
				wantOpened(t, id, of(id, kind, body).text(), kind, body)
			}
		}
	}
}

// P9.2: each kind, and each length of a body.
func TestOpenedKindsAndLengths(t *testing.T) {
	for kind := 1; kind <= 255; kind++ {
		wantOpened(t, 5, of(5, kind, "body").text(), kind, "body")
	}
	for n := range 501 {
		wantOpened(t, 5, of(5, 6, textOf(n)).text(), 6, textOf(n))
		wantOpened(t, 5, of(5, 6, noughts(n)).text(), 6, noughts(n))
	}
}

// P9.2: a text that has not PageSize bytes is refused as that, whatever its bytes are.
func TestOpenOfOtherLengths(t *testing.T) {
	s := of(7, 1, "ab").text()
	for _, id := range []int{7, 8, 0, -1, math.MinInt, math.MaxInt} {
		for n := range 512 {
			wantRefused(t, n, id, s[:n], api.ErrForm)
			wantRefused(t, n, id, s[512-n:], api.ErrForm)
			wantRefused(t, n, id, noughts(n), api.ErrForm)
		}
		for _, more := range []string{"\x00", "a", noughts(64), s, noughts(512), textOf(70000)} {
			wantRefused(t, len(more), id, s+more, api.ErrForm)
			wantRefused(t, len(more), id, more+s, api.ErrForm)
		}
	}
	// A sum that is right for as many bytes as there are makes no page of them.
	for _, n := range []int{0, 4, 8, 10, 507, 509, 508 + 512} {
		front := of(7, 1, "ab").front()
		front = (front + noughts(512))[:n]
		wantRefused(t, fmt.Sprint(n, " and a sum"), 7, withSum(front, plainSum(front)), api.ErrForm)
	}
}

// P9.2: another sum is refused as that.
func TestOpenOfOtherSums(t *testing.T) {
	for _, r := range []raw{of(7, 1, "ab"), of(0, 1, ""), of(1<<31-1, 255, textOf(500))} {
		front := r.front()
		sum := plainSum(front)
		for what, other := range map[string]uint32{
			"nought":            0,
			"all bits":          math.MaxUint32,
			"turned":            ^sum,
			"one more":          sum + 1,
			"one less":          sum - 1,
			"the other way":     sum>>24 | sum>>8&0xff00 | sum<<8&0xff0000 | sum<<24,
			"of the body":       plainSum(r.rest),
			"of all but a byte": plainSum(front[:507]),
			"of all behind one": plainSum(front[1:]),
			"of 504 bytes":      plainSum(front[:504]),
			"with four noughts": plainSum(front + noughts(4)),
			"with itself":       plainSum(withSum(front, sum)),
			"lowest byte alone": sum & 0xff,
			"highest byte gone": sum &^ (0xff << 24),
			"lowest byte gone":  sum &^ 0xff,
			"of another body":   plainSum(of(7, 1, "ac").front()),
		} {
			wantRefused(t, what, int(r.number), withSum(front, other), api.ErrSum)
			wantRefused(t, what+", another number", int(r.number)+1, withSum(front, other), api.ErrSum)
		}
		wantOpened(t, int(r.number), withSum(front, sum), int(r.kind), r.rest)
	}
}

// noPages tells the parts of what is no page, by what it has wrong.
func noPages() map[string]raw {
	l := map[string]raw{
		"kind 0":               {number: 7, rest: "ab", length: 2},
		"kind 0, no body":      {number: 7},
		"kind as the 00":       {number: 7, nought: 1, length: 2, rest: "ab"},
		"kind 0, 00 and kind":  {number: 0, nought: 7},
		"length the other way": {number: 7, kind: 1, length: 2 << 8, rest: "ab"},
	}
	for x := 1; x < 256; x++ {
		l[fmt.Sprint("not 00 but ", x)] = raw{number: 7, kind: 1, nought: byte(x), length: 2, rest: "ab"}
	}
	for _, n := range []int{501, 502, 503, 504, 505, 508, 509, 512, 0x1ff, 756, 1 << 10, 1<<15 - 1, 1 << 15, 1<<16 - 12, 1<<16 - 1} {
		for what, rest := range map[string]string{"noughts": noughts(500), "a text": textOf(500)} {
			l[fmt.Sprint("length ", n, " over ", what)] = raw{number: 7, kind: 1, length: uint16(n), rest: rest}
		}
	}
	for _, n := range []uint32{1 << 31, 1<<31 + 7, 1<<31 + 1<<24, math.MaxUint32, math.MaxUint32 - 1, math.MaxUint32 - 7} {
		l[fmt.Sprint("number ", n)] = raw{number: n, kind: 1, length: 2, rest: "ab"}
	}
	return l
}

// askedFor tells numbers to ask for where bytes have that number: itself, in each way that an int can have its bytes, and others.
func askedFor(n uint32) []int {
	return []int{int(n), int(int32(n)), int(n) + 1<<32, int(n) - 1<<32, int(n) + math.MinInt, int(n &^ (1 << 31)), -int(n), 0, 7, -1, math.MinInt, math.MaxInt}
}

// P9.2: what is no page is refused, though its sum is right.
func TestOpenOfNoPages(t *testing.T) {
	for what, r := range noPages() {
		for _, id := range askedFor(r.number) {
			wantRefused(t, what, id, r.text(), api.ErrForm)
		}
	}
}

// P9.2: a sum that is another one is told first, whatever else is wrong.
func TestOpenTellsTheSumFirst(t *testing.T) {
	for what, r := range noPages() {
		for _, id := range askedFor(r.number) {
			wantRefused(t, what, id, withSum(r.front(), plainSum(r.front())^1), api.ErrSum)
			wantRefused(t, what, id, withSum(r.front(), plainSum(r.front())^1<<31), api.ErrSum)
		}
	}
	for _, id := range append(noIds(), someIds()...) {
		wantRefused(t, "a good page but for the sum", id, withSum(of(7, 1, "ab").front(), 0), api.ErrSum)
	}
}

// P9.2: each length above MaxBody.
func TestOpenOfGreatLengths(t *testing.T) {
	for n := 501; n < 1<<16; n++ {
		wantRefused(t, n, 7, raw{number: 7, kind: 1, length: uint16(n), rest: textOf(20)}.text(), api.ErrForm)
	}
}

// P9.2: each byte behind the body that is no nought.
func TestOpenOfBytesBehindTheBody(t *testing.T) {
	for _, n := range []int{0, 1, 2, 55, 56, 57, 498, 499} {
		for i := n; i < 500; i++ {
			for _, x := range []byte{1, 2, 128, 255} {
				r := raw{number: 7, kind: 1, length: uint16(n), rest: textOf(n) + noughts(i-n) + string([]byte{x})}
				wantRefused(t, fmt.Sprint("body of ", n, ", byte ", i), 7, r.text(), api.ErrForm)
			}
		}
	}
	// A body that ends with what is no nought has a length that is too little by one.
	for n := 1; n <= 500; n++ {
		r := of(7, 1, textOf(n))
		r.length--
		wantRefused(t, n, 7, r.text(), api.ErrForm)
	}
	// Noughts belong to the body as far as its length goes.
	for n := range 501 {
		r := raw{number: 7, kind: 1, length: uint16(n), rest: "\x01"[:min(n, 1)]}
		wantOpened(t, 7, r.text(), 1, r.rest+noughts(max(0, n-1)))
	}
}

// P9.2: a page is opened by its own number, and by none else.
func TestOpenOfOtherNumbers(t *testing.T) {
	for _, id := range someIds() {
		s := of(id, 3, "body").text()
		for _, other := range append(noIds(), someIds()...) {
			if other != id {
				wantRefused(t, id, other, s, api.ErrForm)
			}
		}
		for bit := range 64 {
			wantRefused(t, id, id^1<<bit, s, api.ErrForm)
		}
		wantOpened(t, id, s, 3, "body")
	}
}

// P9.2: texts of one byte again and again; noughts have another sum than nought.
func TestOpenOfLikeBytes(t *testing.T) {
	for x := range 256 {
		s := strings.Repeat(string([]byte{byte(x)}), 512)
		for _, id := range append(noIds(), someIds()...) {
			wantRefused(t, x, id, s, api.ErrSum)
		}
	}
	// With the right sum they have no kind, or no 00.
	for x := range 256 {
		front := strings.Repeat(string([]byte{byte(x)}), 508)
		for _, id := range []int{0, x | x<<8 | x<<16 | x<<24, -1, int(int32(uint32(x) * 0x01010101))} {
			wantRefused(t, x, id, withSum(front, plainSum(front)), api.ErrForm)
		}
	}
}

// P9.2: any bytes with a right sum are told as the document's words tell them.
func TestOpenOfAnyBytes(t *testing.T) {
	row := fixedRow()
	good := 0
	for range 30000 {
		r := raw{number: uint32(row.IntN(3)), kind: byte(row.IntN(3)), nought: byte(row.IntN(20) / 19), length: uint16(row.IntN(600)), rest: anyText(row, row.IntN(501))}
		if row.IntN(2) == 0 {
			r.length = uint16(min(500, len(r.rest)+row.IntN(3)))
		}
		if row.IntN(50) == 0 {
			r.number |= 1 << 31
		}
		id := row.IntN(4)
		isPage := r.number < 1<<31 && r.kind > 0 && r.nought == 0 && r.length <= 500 && strings.Trim(r.front()[8+min(500, int(r.length)):], "\x00") == ""
		if isPage && int(r.number) == id {
			wantOpened(t, id, r.text(), int(r.kind), r.front()[8:8+r.length])
			good++
			continue
		}
		wantRefused(t, r.number, id, r.text(), api.ErrForm)
	}
	if good < 1000 {
		t.Errorf("only %d pages among them", good)
	}
}

// P9.2: a body has no memory in common with the page's text, and the text stays as it is.
func TestOpenKeepsNothing(t *testing.T) {
	for _, n := range []int{1, 64, 500} {
		s := of(5, 6, textOf(n)).text()
		b := []byte(s)
		_, body, e := Open(5, unsafe.String(&b[0], len(b)))
		if string(b) != s || e != api.OK {
			t.Error("the text was changed, or refused: ", e)
		}
		clear(b)
		if body != textOf(n) {
			t.Error("the body was changed with the page's text")
		}
	}
}

// plainSectors tells a text's pieces by other means than the package has.
func plainSectors(s string) []string {
	pieces := []string{}
	for i, x := range []byte(s) {
		if i%64 == 0 {
			pieces = append(pieces, "")
		}
		pieces[len(pieces)-1] += string([]byte{x})
	}
	return pieces
}

// P9.3: the pieces of texts of each length, and of many bytes.
func TestSectors(t *testing.T) {
	for n := range 1100 {
		s := textOf(n)
		got := Sectors(s)
		if !slices.Equal(got, plainSectors(s)) {
			t.Errorf("%d bytes: %q", n, got)
		}
	}
	for _, n := range []int{1 << 16, 1<<16 + 1, 1<<20 - 1, 1 << 20, 1<<20 + 63} {
		s := textOf(n)
		got := Sectors(s)
		if !slices.Equal(got, plainSectors(s)) {
			t.Errorf("%d bytes: %d pieces, or others", n, len(got))
		}
	}
}

// P9.3: how many pieces there are, and how long the last one is, around the sizes of sectors and pages.
func TestSectorsEdges(t *testing.T) {
	for _, c := range []struct{ n, count, last int }{{1, 1, 1}, {63, 1, 63}, {64, 1, 64}, {65, 2, 1}, {128, 2, 64}, {129, 3, 1}, {512, 8, 64}} {
		got := Sectors(textOf(c.n))
		if len(got) != c.count || len(got[len(got)-1]) != c.last {
			t.Errorf("%d bytes: %q", c.n, got)
		}
	}
	if got := Sectors(""); len(got) != 0 {
		t.Errorf("no byte: %q", got)
	}
	// Noughts are bytes like others: the last piece is neither filled with them, nor cut short by them.
	if got := Sectors(noughts(130)); !slices.Equal(got, []string{noughts(64), noughts(64), noughts(2)}) {
		t.Errorf("130 noughts: %q", got)
	}
}

// P9.3: a page's sectors, one behind the other, are the page.
func TestSectorsOfAPage(t *testing.T) {
	s := sealed(t, 5, 6, textOf(500))
	got := Sectors(s)
	if len(got) != 8 {
		t.Fatalf("%d pieces", len(got))
	}
	wantOpened(t, 5, strings.Join(got, ""), 6, textOf(500))
}

// P9.3: pieces have memory of their own, in each answer anew.
func TestSectorsKeepNothing(t *testing.T) {
	b := []byte(textOf(200))
	got, again := Sectors(unsafe.String(&b[0], len(b))), Sectors(textOf(200))
	if string(b) != textOf(200) {
		t.Error("the text was changed")
	}
	clear(b)
	again[0] = "other"
	if !slices.Equal(got, plainSectors(textOf(200))) {
		t.Error("the pieces were changed with the text")
	}
	if last := Sectors(textOf(200)); !slices.Equal(got, last) {
		t.Error("the pieces were changed with another answer")
	}
}

// P9.3: noughts are blank where there are PageSize of them, and at no other count.
func TestBlankLengths(t *testing.T) {
	for n := range 1100 {
		if got := Blank(noughts(n)); got != (n == 512) {
			t.Errorf("%d noughts: %v", n, got)
		}
	}
	if Blank(noughts(1<<20)) || Blank(noughts(1<<16+512)) {
		t.Error("many noughts are blank")
	}
}

// P9.3: one bit anywhere, and it is not blank.
func TestBlankBits(t *testing.T) {
	for bit := range 512 * 8 {
		b := make([]byte, 512)
		b[bit/8] = 1 << (bit % 8)
		if Blank(string(b)) {
			t.Errorf("bit %d is not seen", bit)
		}
	}
	for _, s := range []string{strings.Repeat("0", 512), strings.Repeat(" ", 512), strings.Repeat("\xff", 512), sealed(t, 0, 1, ""), textOf(512), textOf(1)} {
		if Blank(s) {
			t.Errorf("%.40q is blank", s)
		}
	}
}

// P9.3: what is blank is no page: the two are never taken for each other.
func TestBlankIsNoPage(t *testing.T) {
	for _, id := range append(noIds(), someIds()...) {
		wantRefused(t, "blank", id, noughts(512), api.ErrSum)
	}
	for _, body := range someBodies() {
		if Blank(sealed(t, 0, 1, body)) {
			t.Errorf("a page of %.40q is blank", body)
		}
	}
}
