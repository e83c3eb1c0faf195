package blake

import (
	"bytes"
	"strings"
	"testing"

	"aquifer/api"
)

// The digests that stand here as texts were made by another program's BLAKE2s, of rising bytes where nothing else is said.
const (
	ofNoBytes = "69217a3079908094e11121d042354a7c1f55b6482ca1a51e1b250dfd1ed0eef9"
	ofABC     = "508c5e8c327c14e2e1a72ba34eeb452f37458b209ed63a294d999b4c86675982"
	// ofDigests is the digest of the digests of 0, 1, .. 1024 rising bytes, one behind the other.
	ofDigests = "90d20671c2c5243b78c9308fc0cfa37538cc943489221a210467b4040521d702"
	// ofMany is the digest of 2^20 + 1 rising bytes.
	ofMany = "31c5f202253ce8c0713972bfcd0f4fdcd46dace438e7657fb5af4179fbb59fe0"
)

func rising(n int) []byte {
	b := make([]byte, n)
	for i := range b {
		b[i] = byte(i)
	}
	return b
}

// numbers tells the next of a fixed row of numbers, so that each run has the same ones.
func numbers() func() uint32 {
	state := uint64(0x9e3779b97f4a7c15)
	return func() uint32 {
		state ^= state << 13
		state ^= state >> 7
		state ^= state << 17
		return uint32(state >> 32)
	}
}

func someDigest(next func() uint32) [32]byte {
	var d [32]byte
	for i := range d {
		d[i] = byte(next())
	}
	return d
}

// written makes a hash of bytes, and fails if they are refused or miscounted.
func written(t *testing.T, pieces ...[]byte) *Hash {
	t.Helper()
	h := New()
	if h == nil {
		t.Fatal("New() = nil")
	}
	n := 0
	for _, b := range pieces {
		if e := h.Write(b); e != api.OK {
			t.Fatalf("Write(%x) = %v", b, e)
		}
		n += len(b)
		if h.Len() != n {
			t.Fatalf("Len() = %d behind %d bytes", h.Len(), n)
		}
	}
	return h
}

func wantSum(t *testing.T, h *Hash, want [32]byte, what string, numbers ...int) {
	t.Helper()
	if got := h.Sum(); got != want {
		t.Errorf("%s %v: Sum() = %x, want %x", what, numbers, got, want)
	}
}

// P2.1

func TestNewHasNoBytes(t *testing.T) {
	h := New()
	if h.Len() != 0 {
		t.Errorf("Len() = %d", h.Len())
	}
	if got := Hex(h.Sum()); got != ofNoBytes {
		t.Errorf("Sum() = %s, want %s", got, ofNoBytes)
	}
}

func TestNewIsANewOneEachTime(t *testing.T) {
	a, b := New(), New()
	a.Write([]byte("abc"))
	if b.Len() != 0 || Hex(b.Sum()) != ofNoBytes {
		t.Errorf("what is written to one is told by the other: %d, %x", b.Len(), b.Sum())
	}
	if c := New(); c.Len() != 0 || Hex(c.Sum()) != ofNoBytes {
		t.Errorf("what is written to one is told by a later one: %d, %x", c.Len(), c.Sum())
	}
}

func TestWriteOfNoBytes(t *testing.T) {
	for n := range 130 {
		h := written(t, rising(n), nil, []byte{})
		wantSum(t, h, Of(rising(n)), "no bytes behind", n)
	}
}

func TestSumIsToldAgain(t *testing.T) {
	for n := range 200 {
		h := written(t, rising(n))
		first := h.Sum()
		wantSum(t, h, first, "again, of", n)
		if h.Len() != n {
			t.Errorf("Len() = %d behind Sum of %d bytes", h.Len(), n)
		}
	}
}

// TestMoreIsWrittenBehindSum: a sum at each place, about a block's end too, leaves no trace in those behind it.
func TestMoreIsWrittenBehindSum(t *testing.T) {
	all := rising(300)
	h := New()
	for i := range all {
		wantSum(t, h, Of(all[:i]), "byte by byte", i)
		if e := h.Write(all[i : i+1]); e != api.OK || h.Len() != i+1 {
			t.Fatalf("Write = %v, Len() = %d behind %d bytes", e, h.Len(), i+1)
		}
	}
	wantSum(t, h, Of(all), "byte by byte", len(all))
}

func TestCopyGoesItsOwnWay(t *testing.T) {
	for n := range 200 {
		h := written(t, rising(n))
		c := h.Copy()
		if c == nil || c == h {
			t.Fatalf("Copy() of %d bytes is no other hash", n)
		}
		if c.Len() != n {
			t.Errorf("a copy of %d bytes has %d", n, c.Len())
		}
		wantSum(t, c, Of(rising(n)), "the copy of", n)

		c.Write([]byte("copy"))
		wantSum(t, h, Of(rising(n)), "the first one, beside a longer copy", n)
		if h.Len() != n {
			t.Errorf("Len() = %d of %d bytes, beside a longer copy", h.Len(), n)
		}
		h.Write([]byte("the first one, and more than a block of it, so that both are another block's end away"))
		wantSum(t, c, Of(append(rising(n), "copy"...)), "the copy, beside a longer first one", n)
		if c.Len() != n+4 {
			t.Errorf("Len() = %d of the copy's %d bytes", c.Len(), n+4)
		}
	}
}

func TestCopyOfACopy(t *testing.T) {
	c := written(t, []byte("a")).Copy()
	c.Write([]byte("b"))
	d := c.Copy()
	d.Write([]byte("c"))
	if got := Hex(d.Sum()); got != ofABC {
		t.Errorf("a, b, c by copies: %s, want %s", got, ofABC)
	}
	wantSum(t, c, Of([]byte("ab")), "the copy between")
}

func TestWhatNewDidNotMake(t *testing.T) {
	var plain Hash
	for name, h := range map[string]*Hash{"nil": nil, "a plain one": &plain, "new": new(Hash)} {
		for range 2 {
			for _, b := range [][]byte{nil, {}, []byte("abc"), rising(200)} {
				if e := h.Write(b); e != api.ErrNil {
					t.Errorf("%s: Write = %v, want ErrNil", name, e)
				}
			}
			if n := h.Len(); n != 0 {
				t.Errorf("%s: Len() = %d", name, n)
			}
			if d := h.Sum(); d != [32]byte{} {
				t.Errorf("%s: Sum() = %x", name, d)
			}
			if c := h.Copy(); c != nil {
				t.Errorf("%s: Copy() is not nil", name)
			}
		}
	}
	if plain != (Hash{}) {
		t.Error("a call did something to a plain hash")
	}
}

func TestBytesAreLeftAlone(t *testing.T) {
	whole := append(rising(100), "behind the length"...)
	b := whole[:100]
	h := written(t, b)
	wantSum(t, h, Of(rising(100)), "bytes with others behind their length")
	if !bytes.Equal(whole, append(rising(100), "behind the length"...)) {
		t.Error("the bytes were changed")
	}
	clear(whole)
	wantSum(t, h, Of(rising(100)), "bytes that were changed later")
}

// P2.2

func TestOfKnownBytes(t *testing.T) {
	for _, c := range []struct {
		b    []byte
		want string
	}{
		{nil, ofNoBytes},
		{[]byte{}, ofNoBytes},
		{[]byte("abc"), ofABC},
		{rising(1), "e34d74dbaf4ff4c6abd871cc220451d2ea2648846c7757fbaac82fe51ad64bea"},
		{rising(2), "ddad9ab15dac4549ba42f49d262496bef6c0bae1dd342a8808f8ea267c6e210c"},
		{rising(55), "f4495470f226c8c214be08fdfad4bc4a2a9dbea9136a210df0d4b64929e6fc14"},
		{rising(56), "e290dd270b467f34ab1c002d340fa016257ff19e5833fdbbf2cb401c3b2817de"},
		{rising(63), "e57cb79487dd57902432b250733813bd96a84efce59f650fac26e6696aefafc3"},
		{rising(64), "56f34e8b96557e90c1f24b52d0c89d51086acf1b00f634cf1dde9233b8eaaa3e"},
		{rising(65), "1b53ee94aaf34e4b159d48de352c7f0661d0a40edff95a0b1639b4090e974472"},
		{rising(127), "f18417b39d617ab1c18fdf91ebd0fc6d5516bb34cf39364037bce81fa04cecb1"},
		{rising(128), "1fa877de67259d19863a2a34bcc6962a2b25fcbf5cbecd7ede8f1fa36688a796"},
		{rising(129), "5bd169e67c82c2c2e98ef7008bdf261f2ddf30b1c00f9e7f275bb3e8a28dc9a2"},
		{rising(192), "58d212ad6f58aef0f80116b441e57f6195bfef26b61463edec1183cdb04fe76d"},
		{rising(1000), "b5f9d7799111edafc9326fbf667be98140b5e20ce5e151793c59125bf654ac18"},
		{make([]byte, 64), "ae09db7cd54f42b490ef09b6bc541af688e4959bb8c53f359a6f56e38ab454a3"},
		{bytes.Repeat([]byte{255}, 64), "ee92d9d765aac654bc062ea8e24456bb1a73c86643bdac7ec4ff2efd81721063"},
		{rising(1<<20 + 1), ofMany},
	} {
		if got := Hex(Of(c.b)); got != c.want {
			t.Errorf("%d bytes: %s, want %s", len(c.b), got, c.want)
		}
	}
}

func TestOfEachLength(t *testing.T) {
	var all []byte
	for n := range 1025 {
		d := Of(rising(n))
		all = append(all, d[:]...)
	}
	if got := Hex(Of(all)); got != ofDigests {
		t.Errorf("the digests' digest is %s, want %s", got, ofDigests)
	}
}

// TestNoughtsCount: a block is filled with noughts, but noughts that were written are bytes like others.
func TestNoughtsCount(t *testing.T) {
	seen := make(map[[32]byte]int)
	for n := range 200 {
		d := Of(make([]byte, n))
		if m, ok := seen[d]; ok {
			t.Errorf("%d and %d noughts have one digest", m, n)
		}
		seen[d] = n
	}
}

func TestOfReadsNothingBehindTheLength(t *testing.T) {
	whole := []byte("abcdef")
	if got := Hex(Of(whole[:3])); got != ofABC {
		t.Errorf("abc, with more behind its length: %s, want %s", got, ofABC)
	}
	if string(whole) != "abcdef" {
		t.Errorf("the bytes were changed: %q", whole)
	}
}

func TestHexTellsTheFirstByteFirst(t *testing.T) {
	var d [32]byte
	if got, want := Hex(d), strings.Repeat("0", 64); got != want {
		t.Errorf("noughts: %s, want %s", got, want)
	}
	for i := range d {
		d[i] = byte(i*8 + i/4)
	}
	const want = "0008101821293139424a525a636b737b848c949ca5adb5bdc6ced6dee7eff7ff"
	if got := Hex(d); got != want {
		t.Errorf("%x: %s, want %s", d, got, want)
	}
	for x := range 256 {
		d = [32]byte{5: byte(x)}
		const digits = "0123456789abcdef"
		want := strings.Repeat("0", 10) + string([]byte{digits[x/16], digits[x%16]}) + strings.Repeat("0", 52)
		if got := Hex(d); got != want {
			t.Errorf("%x: %s, want %s", d, got, want)
		}
	}
}

func TestUnhexIsHexBack(t *testing.T) {
	next := numbers()
	digests := [][32]byte{{}, {0: 1}, {31: 1}, Of(nil), Of([]byte("abc"))}
	for range 200 {
		digests = append(digests, someDigest(next))
	}
	for _, d := range digests {
		if got, e := Unhex(Hex(d)); got != d || e != api.OK {
			t.Errorf("Unhex(%s) = %x, %v", Hex(d), got, e)
		}
	}
}

func TestUnhexAtEachPlace(t *testing.T) {
	const small = "0123456789abcdef"
	for i := range 64 {
		for x := range 256 {
			text := bytes.Repeat([]byte{'7'}, 64)
			text[i] = byte(x)
			got, e := Unhex(string(text))
			if strings.IndexByte(small, byte(x)) < 0 {
				if got != [32]byte{} || e != api.ErrForm {
					t.Fatalf("Unhex(%q) = %x, %v, want noughts, ErrForm", text, got, e)
				}
			} else if e != api.OK || Hex(got) != string(text) {
				t.Fatalf("Unhex(%q) = %x, %v", text, got, e)
			}
		}
	}
}

func TestUnhexOfOtherTexts(t *testing.T) {
	for n := range 200 {
		if n == 64 {
			continue
		}
		if got, e := Unhex(strings.Repeat("5", n)); got != [32]byte{} || e != api.ErrForm {
			t.Errorf("%d digits: %x, %v, want noughts, ErrForm", n, got, e)
		}
	}
	for _, s := range []string{
		"", " ", "0", "0x" + ofABC, "0x" + ofABC[2:], ofABC + "\n", ofABC[:63], ofABC[:63] + "\n", " " + ofABC, " " + ofABC[1:],
		ofABC + ofABC, strings.ToUpper(ofABC), ofABC[:62] + "0G", "+" + ofABC[1:], "-" + ofABC[1:], "_" + ofABC[1:],
		ofABC[:62] + "\u00e9", strings.Repeat("\u0663", 32), strings.Repeat("\uff11", 64), strings.Repeat("\x00", 64), strings.Repeat("\xff", 64),
	} {
		if got, e := Unhex(s); got != [32]byte{} || e != api.ErrForm {
			t.Errorf("Unhex(%q) = %x, %v, want noughts, ErrForm", s, got, e)
		}
	}
}

// P2.3

func TestTwoPieces(t *testing.T) {
	for _, n := range []int{0, 1, 63, 64, 65, 127, 128, 129, 200} {
		all := rising(n)
		want := Of(all)
		for i := range n + 1 {
			wantSum(t, written(t, all[:i], all[i:]), want, "cut at", i, n)
		}
	}
}

func TestThreePieces(t *testing.T) {
	all := rising(140)
	want := Of(all)
	for i := range len(all) + 1 {
		for j := i; j <= len(all); j++ {
			wantSum(t, written(t, all[:i], all[i:j], all[j:]), want, "cut at", i, j)
		}
	}
}

func TestPiecesOfOneLength(t *testing.T) {
	all := rising(1000)
	want := Of(all)
	for size := 1; size <= len(all); size++ {
		h := New()
		for rest := all; len(rest) > 0; {
			n := min(size, len(rest))
			h.Write(rest[:n])
			rest = rest[n:]
		}
		wantSum(t, h, want, "pieces of", size)
	}
}

func TestSomePieces(t *testing.T) {
	next := numbers()
	for range 300 {
		all := rising(int(next() % 1500))
		var pieces [][]byte
		var sizes []int
		for rest := all; len(rest) > 0; {
			n := min(int(next()%150), len(rest))
			pieces, sizes = append(pieces, rest[:n]), append(sizes, n)
			rest = rest[n:]
		}
		wantSum(t, written(t, pieces...), Of(all), "pieces of", sizes...)
	}
}
