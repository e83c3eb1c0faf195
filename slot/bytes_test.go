package slot

import (
	"encoding/hex"
	"fmt"
	"strings"
	"testing"

	"aquifer/api"
)

// fromHex tells the bytes that a text of numbers in base 16 says.
func fromHex(t *testing.T, s string) string {
	t.Helper()
	b, err := hex.DecodeString(strings.ReplaceAll(s, " ", ""))
	if err != nil {
		t.Fatal(err)
	}
	return string(b)
}

// wantDecoded fails, if Decode tells another node, or an error.
func wantDecoded(t *testing.T, what any, s string, want api.Node) {
	t.Helper()
	n, e := Decode(s)
	if e != api.OK {
		t.Errorf("%v: Decode: error %d", what, e)
		return
	}
	wantNode(t, what, n, want)
}

// wantNoNode fails, if Decode tells anything but ErrForm.
func wantNoNode(t *testing.T, what any, s string) {
	t.Helper()
	n, e := Decode(s)
	if e != api.ErrForm {
		t.Errorf("%v: Decode of %.60x: error %d, want ErrForm", what, s, e)
	}
	wantNode(t, what, n, api.Node{})
}

// wantRead fails, if Decode tells of bytes otherwise than the words have it.
func wantRead(t *testing.T, what any, s string) {
	t.Helper()
	if n, there := plainDecode(s); there {
		wantDecoded(t, what, s, n)
	} else {
		wantNoNode(t, what, s)
	}
}

// P11.1: bytes that were put together by hand; the first one is the chapter's example.
func TestBytesByHand(t *testing.T) {
	for s, n := range map[string]api.Node{
		"01 01 01 61 00 01 78": leaf(cell("a", "x")),
		"01 00":                leaf(),
		"01 01 01 61 00 00":    bare("a"),
		"01 02 01 00 00 01 00 02 00 01 00 02 0102":                           leaf(cell("\x00", "\x00"), cell("\x00\x01", "\x01\x02")),
		"01 01 01 61 01 00000000 01000000":                                   leaf(over("a", 1, 0)),
		"01 01 02 6162 01 f4010000 09000000":                                 leaf(over("ab", 9, 500)),
		"01 01 01 61 01 00400000 ffffff7f":                                   leaf(over("a", 1<<31-1, 16384)),
		"01 03 01 61 00 01 78 01 62 01 02010000 04030201 01 63 00 03 000102": leaf(cell("a", "x"), over("b", 0x01020304, 0x0102), cell("c", "\x00\x01\x02")),
		"02 00 01000000":                                 with(branch(), 1),
		"02 00 ffffff7f":                                 with(branch(), 1<<31-1),
		"02 01 04030201 01 61 08070605":                  with(branch("a"), 0x01020304, 0x05060708),
		"02 02 07000000 01 61 07000000 02 6100 00010000": with(branch("a", "a\x00"), 7, 7, 256),
	} {
		want := fromHex(t, s)
		if got, e := Encode(n); got != want || e != api.OK {
			t.Errorf("Encode: %x, error %d; want %s", got, e, s)
		}
		if size := Size(n); size != len(want) {
			t.Errorf("Size %d, want %d", size, len(want))
		}
		wantDecoded(t, s, want, n)
	}
}

// P11.1: nodes of MaxBody bytes are written, those of one more are not.
func TestNodesOfMaxBody(t *testing.T) {
	for more := -3; more <= 4; more++ {
		for what, n := range map[string]api.Node{
			"leaf":        leaf(cell("a", textOf(156)), cell("b", textOf(156)), cell("c", textOf(156)), cell("d", textOf(14+more))),
			"leaf's keys": leaf(over(textOf(140), 1, 1), over("\xfa"+textOf(129), 1, 1), over("\xfb"+textOf(129), 1, 1), cell("\xfc", textOf(64+more))),
			"branch":      branch(textOf(100), "\xfb"+textOf(99), "\xfc"+textOf(99), "\xfd"+textOf(99), "\xfe"+textOf(68+more)),
		} {
			if size := len(plainBytes(n)); size != 500+more {
				t.Fatalf("%s: %d bytes, not %d", what, size, 500+more)
			}
			wantMay(t, fmt.Sprint(what, " ", more), n)
			_, e := Encode(n)
			if long := more > 0; long != (e == api.ErrLong) {
				t.Errorf("%s of %d bytes: error %d", what, 500+more, e)
			}
		}
	}
}

// P11.1, P11.5: what is encoded is decoded as it was; bytes of more than MaxBody are a node's too.
func TestDecodedAsItWas(t *testing.T) {
	for i, n := range anyNodes() {
		s := plainBytes(n)
		wantDecoded(t, i, s, n)
		if len(s) > 500 {
			continue
		}
		if got, e := Encode(n); got != s || e != api.OK {
			t.Errorf("%d: Encode: %x, error %d; want %x", i, got, e, s)
		}
	}
}

// P11.1: bytes cut short at each place, and with bytes more.
func TestDecodeOfOtherLengths(t *testing.T) {
	wantNoNode(t, "no byte", "")
	for i, n := range anyNodes()[:120] {
		s := plainBytes(n)
		for k := range len(s) {
			wantNoNode(t, fmt.Sprint(i, " cut at ", k), s[:k])
		}
		for k := 1; k < min(len(s), 20); k++ {
			wantRead(t, fmt.Sprint(i, " from ", k), s[k:])
		}
		for _, more := range []string{"\x00", "\x01", "a", "\x00\x00\x00\x00", "\x01a\x00\x00", "\x01\xff\x00\x00", s, strings.Repeat("\x00", 500)} {
			wantNoNode(t, fmt.Sprint(i, " and more"), s+more)
		}
	}
	for i := range 256 {
		wantNoNode(t, i, string([]byte{byte(i)}))
	}
}

// P11.1: each first byte, and each count, over the same bytes.
func TestDecodeOfMarksAndCounts(t *testing.T) {
	for i, n := range goodNodes() {
		s := plainBytes(n)
		for x := range 256 {
			first := string([]byte{byte(x)}) + s[1:]
			count := s[:1] + string([]byte{byte(x)}) + s[2:]
			if x != int(s[0]) && x != 1 && x != 2 {
				wantNoNode(t, fmt.Sprint(i, " mark ", x), first)
			}
			if x != int(s[1]) {
				wantNoNode(t, fmt.Sprint(i, " count ", x), count)
			}
			wantRead(t, fmt.Sprint(i, " mark ", x), first)
			wantRead(t, fmt.Sprint(i, " count ", x), count)
		}
	}
}

// P11.1: each byte changed to each other one.
func TestDecodeOfChangedBytes(t *testing.T) {
	for i, n := range []api.Node{leaf(cell("a", "x"), over("b", 9, 500), cell("bc", "")), branch("a", "b", "bc"), branch(), leaf(over("a", 1, 0))} {
		s := []byte(plainBytes(n))
		for k, was := range s {
			for x := range 256 {
				s[k] = byte(x)
				wantRead(t, fmt.Sprint(i, " byte ", k, " as ", x), string(s))
			}
			s[k] = was
		}
	}
}

// P11.1: cells, keys and kids that may not be are no node's, though they are written as such.
func TestDecodeOfWhatMayNotBe(t *testing.T) {
	key := strings.Repeat("6b", 140)
	for what, s := range map[string]string{
		"a cell without a key":           "01 01 00 00 00",
		"a cell without a key, pages":    "01 01 00 01 00000000 01000000",
		"a key of 141 bytes":             "01 01 8d " + key + "6b 00 00",
		"a key of 141 bytes, pages":      "01 01 8d " + key + "6b 01 00000000 01000000",
		"together 158 bytes":             "01 01 8c " + key + " 00 12 " + strings.Repeat("00", 18),
		"a value of 157 bytes":           "01 01 01 61 00 9d " + strings.Repeat("78", 157),
		"a value of 255 bytes":           "01 01 01 61 00 ff " + strings.Repeat("78", 255),
		"another mark":                   "01 01 01 61 02 00",
		"another mark, as pages":         "01 01 01 61 ff 00000000 01000000",
		"a value in page 0":              "01 01 01 61 01 00000000 00000000",
		"a value in page 0, length 1":    "01 01 01 61 01 01000000 00000000",
		"a value in page 2^31":           "01 01 01 61 01 00000000 00000080",
		"a value in page 2^32 - 1":       "01 01 01 61 01 00000000 ffffffff",
		"a length of 2^14 + 1":           "01 01 01 61 01 01400000 01000000",
		"a length of 2^16":               "01 01 01 61 01 00000100 01000000",
		"a length of 2^31":               "01 01 01 61 01 00000080 01000000",
		"a length of 2^32 - 1":           "01 01 01 61 01 ffffffff 01000000",
		"length and page, highest first": "01 01 01 61 01 00000001 00000001 00",
		"cells that fall":                "01 02 01 62 00 00 01 61 00 00",
		"cells alike":                    "01 02 01 61 00 00 01 61 00 00",
		"no kid":                         "02 00",
		"kid 0":                          "02 00 00000000",
		"kid 2^31":                       "02 00 00000080",
		"kid 2^32 - 1":                   "02 00 ffffffff",
		"a branch's empty key":           "02 01 01000000 00 02000000",
		"a branch's key of 141 bytes":    "02 01 01000000 8d " + key + "6b 02000000",
		"a later kid 0":                  "02 01 01000000 01 61 00000000",
		"a later kid 2^31":               "02 01 01000000 01 61 00000080",
		"keys that fall":                 "02 02 01000000 01 62 02000000 01 61 03000000",
		"keys alike":                     "02 02 01000000 01 61 02000000 01 61 03000000",
		"noughts":                        "00 00 00 00 00 00 00",
		"mark 3":                         "03 00",
		"a leaf as a branch":             "02 01 01 61 00 01 78",
		"a branch as a leaf":             "01 01 01000000 01 61 02000000",
	} {
		bytes := fromHex(t, s)
		if _, there := plainDecode(bytes); there {
			t.Fatalf("%s: by the words there is a node", what)
		}
		wantNoNode(t, what, bytes)
	}
	// What lies just within these bounds is one.
	for what, s := range map[string]string{
		"a key of 140 bytes":       "01 01 8c " + key + " 00 00",
		"together 157 bytes":       "01 01 8c " + key + " 00 11 " + strings.Repeat("00", 17),
		"a value of 156 bytes":     "01 01 01 61 00 9c " + strings.Repeat("78", 156),
		"a length of 2^14":         "01 01 01 61 01 00400000 01000000",
		"a branch's key, 140 long": "02 01 01000000 8c " + key + " 02000000",
	} {
		if _, there := plainDecode(fromHex(t, s)); !there {
			t.Fatalf("%s: by the words there is no node", what)
		}
		wantRead(t, what, fromHex(t, s))
	}
}

// P11.1: any bytes, many of which begin as a node does.
func TestDecodeOfAnyBytes(t *testing.T) {
	row := fixedRow()
	for i := range 60000 {
		b := make([]byte, row.IntN(24))
		for j := range b {
			b[j] = byte(row.IntN(4))
		}
		if len(b) > 0 {
			b[0] = byte(1 + row.IntN(2))
		}
		wantRead(t, i, string(b))
	}
	for i := range 256 {
		wantRead(t, i, strings.Repeat(string([]byte{byte(i)}), 500))
		wantRead(t, i, "\x01\xff"+strings.Repeat(string([]byte{byte(i)}), 1<<16))
		wantRead(t, i, "\x02\xff"+strings.Repeat(string([]byte{byte(i)}), 1<<16))
	}
	wantNoNode(t, "great", strings.Repeat("\x01", 1<<24))
}

// P11.1: a node's texts and lists are new memory.
func TestDecodeGivesNewMemory(t *testing.T) {
	for i, n := range anyNodes()[:100] {
		s := plainBytes(n)
		a, e := Decode(s)
		b, f := Decode(s)
		if e != api.OK || f != api.OK {
			t.Fatal(i, e, f)
		}
		whole := api.Node{Keys: []string{s}}
		wantApart(t, i, a, b, whole)
	}
}

// P11.1: Check, Size and Encode leave what they are given as it was.
func TestEncodeLeavesTheNode(t *testing.T) {
	for _, n := range anyNodes()[:100] {
		stay(t, n, func(n api.Node) {
			Check(n)
			Size(n)
			Encode(n)
		})
	}
}
