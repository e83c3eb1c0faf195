package page

import (
	"encoding/binary"
	"fmt"
	"hash/crc32"
	"math"
	"math/rand/v2"
	"strings"
	"testing"

	"aquifer/api"
)

// What the document says of a page's bytes, told without the program's own words: all tests hold the program against this.

// raw is a page's parts as they stand in its bytes, be they those of a page or not.
type raw struct {
	number uint32
	kind   byte
	nought byte
	length uint16
	rest   string // the body, and what stands behind it up to the sum
}

// of tells the parts of a good page.
func of(id, kind int, body string) raw {
	return raw{number: uint32(id), kind: byte(kind), length: uint16(len(body)), rest: body}
}

// front tells the 508 bytes of which the sum is taken.
func (r raw) front() string {
	b := binary.LittleEndian.AppendUint32(nil, r.number)
	b = append(b, r.kind, r.nought)
	b = binary.LittleEndian.AppendUint16(b, r.length)
	return string(b) + r.rest + noughts(500-len(r.rest))
}

// text tells the 512 bytes, with the right sum.
func (r raw) text() string {
	return withSum(r.front(), plainSum(r.front()))
}

// withSum tells a page's bytes with any sum.
func withSum(front string, sum uint32) string {
	return string(binary.LittleEndian.AppendUint32([]byte(front), sum))
}

// plainSum tells the sum of a text.
func plainSum(s string) uint32 {
	return crc32.Checksum([]byte(s), crc32.MakeTable(crc32.Castagnoli))
}

// noughts tells n bytes of 00.
func noughts(n int) string {
	return strings.Repeat("\x00", n)
}

// textOf tells n bytes that are not alike, and none of them a nought.
func textOf(n int) string {
	b := make([]byte, n)
	for i := range b {
		b[i] = byte((i*7+i/64+n)%255 + 1)
	}
	return string(b)
}

// fixedRow tells numbers that are the same in each run.
func fixedRow() *rand.Rand {
	return rand.New(rand.NewPCG(9, 1))
}

// anyText tells n bytes of any value.
func anyText(row *rand.Rand, n int) string {
	b := make([]byte, n)
	for i := range b {
		b[i] = byte(row.Uint32())
	}
	return string(b)
}

// someIds tells numbers of pages, among them the least and the greatest.
func someIds() []int {
	return []int{0, 1, 2, 7, 127, 128, 255, 256, 257, 65535, 65536, 1 << 24, 0x01020304, 1<<24 - 1, 1<<31 - 2, 1<<31 - 1}
}

// noIds tells numbers that no page has, among them those whose lowest bytes are a page's.
func noIds() []int {
	l := []int{-1, -2, -7, -256, 1 << 31, 1<<31 + 7, 1<<32 - 1, 1 << 32, 1<<32 + 7, -1 << 31, -1<<31 - 1, -1 << 32, 7 - 1<<32, math.MinInt, math.MinInt + 7, math.MaxInt, math.MaxInt - 1}
	for _, id := range someIds() {
		l = append(l, id+1<<32, id-1<<32, id+math.MinInt, -1-id)
	}
	return l
}

// noKinds tells kinds that no page has, among them those whose lowest byte is a kind.
func noKinds() []int {
	return []int{0, -1, -2, -255, -256, 256, 257, 511, 512, 65537, 1 << 31, 1<<32 + 1, math.MinInt, math.MinInt + 1, math.MaxInt, math.MaxInt - 1}
}

// someBodies tells bodies, among them those that are empty, full, of noughts, and that look like a page's own parts.
func someBodies() []string {
	return []string{"", "a", "ab", "\x00", "\x00a", "a\x00", "\xff", noughts(2), noughts(499), noughts(500), strings.Repeat("\xff", 500), textOf(63), textOf(64), textOf(255), textOf(256), textOf(257), textOf(499), textOf(500), of(7, 1, "ab").text()[:16], of(7, 1, "ab").text()[12:]}
}

// sealed tells a page that Seal is to tell.
func sealed(t *testing.T, id, kind int, body string) string {
	t.Helper()
	s, e := Seal(id, kind, body)
	if e != api.OK {
		t.Fatalf("Seal(%d, %d, %d bytes): error %d", id, kind, len(body), e)
	}
	return s
}

// wantSealed fails, if Seal tells another page, or an error.
func wantSealed(t *testing.T, id, kind int, body, want string) {
	t.Helper()
	if got := sealed(t, id, kind, body); got != want {
		t.Errorf("Seal(%d, %d, %.40q): %x, want %x", id, kind, body, got, want)
	}
}

// wantUnsealed fails, if Seal tells anything but this error.
func wantUnsealed(t *testing.T, id, kind int, body string, want api.Errno) {
	t.Helper()
	if s, e := Seal(id, kind, body); s != "" || e != want {
		t.Errorf("Seal(%d, %d, %d bytes): %d bytes, error %d, want error %d", id, kind, len(body), len(s), e, want)
	}
}

// wantOpened fails, if Open tells another kind or body, or an error.
func wantOpened(t *testing.T, id int, s string, kind int, body string) {
	t.Helper()
	if k, b, e := Open(id, s); k != kind || b != body || e != api.OK {
		t.Errorf("Open(%d): kind %d, body %.40q, error %d; want %d, %.40q", id, k, b, e, kind, body)
	}
}

// wantRefused fails, if Open tells anything but this error.
func wantRefused(t *testing.T, what any, id int, s string, want api.Errno) {
	t.Helper()
	if kind, body, e := Open(id, s); kind != 0 || body != "" || e != want {
		t.Errorf("%s: Open(%d): kind %d, body %.40q, error %d; want error %d alone", fmt.Sprint(what), id, kind, body, e, want)
	}
}
