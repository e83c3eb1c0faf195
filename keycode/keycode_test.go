package keycode

import (
	"encoding/binary"
	"fmt"
	"math"
	"regexp"
	"slices"
	"strings"
	"testing"

	"aquifer/api"
)

// numbers tells the next of a fixed row of numbers, so that each run has the same ones.
func numbers() func() uint32 {
	state := uint64(0x9e3779b97f4a7c15)
	return func() uint32 {
		state ^= state << 13
		state ^= state >> 7
		state ^= state << 17
		return uint32(state >> 32)
	}
}

// plainBytes writes a key without fault by other means than the package has.
func plainBytes(l []api.Part) string {
	var b []byte
	for _, p := range l {
		if p.Kind == api.PtNum {
			b = binary.BigEndian.AppendUint64(append(b, 0x10), uint64(p.N)^1<<63)
			continue
		}
		b = append(b, "\x20"+strings.ReplaceAll(p.S, "\x00", "\x00\xff")+"\x00\x01"...)
	}
	return string(b)
}

// asRunes lets an expression look at bytes one by one.
func asRunes(s string) string {
	r := make([]rune, len(s))
	for i := range r {
		r[i] = rune(s[i])
	}
	return string(r)
}

var keyForm = regexp.MustCompile(`(?s)^(\x10.{8}|\x20([^\x00]|\x00\xff)*\x00\x01){0,16}$`)

// isKey tells whether s is the bytes of a key, of texts that are not above MaxPart.
func isKey(s string) bool {
	return len(s) <= 140 && keyForm.MatchString(asRunes(s))
}

// someKey tells a key that may be encoded, of few kinds of bytes, so that many keys begin alike.
func someKey(next func() uint32) []api.Part {
	signs := "\x00\x01\x02\x10\x20a\xfe\xff"
	ints := []int{math.MinInt, math.MinInt + 1, -257, -256, -1, 0, 1, 255, 256, 1 << 32, math.MaxInt}
	var l []api.Part
	for range next() % 6 {
		if next()%2 == 0 {
			l = append(l, Num(ints[int(next())%len(ints)]))
			continue
		}
		s := ""
		for range next() % 4 {
			i := int(next()) % len(signs)
			s += signs[i : i+1]
		}
		l = append(l, Text(s))
	}
	return l
}

func encoded(t *testing.T, l []api.Part) string {
	t.Helper()
	s, e := Encode(l)
	if e != api.OK {
		t.Fatalf("Encode(%#v) = %v", l, e)
	}
	return s
}

func wantRefused(t *testing.T, l []api.Part, want api.Errno) {
	t.Helper()
	if s, e := Encode(l); s != "" || e != want {
		t.Errorf("Encode of %d parts %#v = %q, %v, want %v", len(l), l, s, e, want)
	}
}

func wantNoKey(t *testing.T, s string) {
	t.Helper()
	if l, e := Decode(s); len(l) != 0 || e != api.ErrForm {
		t.Errorf("Decode(%q) = %#v, %v, want %v", s, l, e, api.ErrForm)
	}
}

func repeat(p api.Part, n int) []api.Part {
	return slices.Repeat([]api.Part{p}, n)
}

// P3.1: the bytes of a key, as the chapter's words and its example have them.
func TestEncodeTellsBytes(t *testing.T) {
	for _, c := range []struct {
		l    []api.Part
		want string
	}{
		{nil, ""},
		{[]api.Part{}, ""},
		{[]api.Part{Num(1), Text("a")}, "10 80 00 00 00 00 00 00 01 20 61 00 01"},
		{[]api.Part{Num(0)}, "10 80 00 00 00 00 00 00 00"},
		{[]api.Part{Num(-1)}, "10 7f ff ff ff ff ff ff ff"},
		{[]api.Part{Num(math.MinInt64)}, "10 00 00 00 00 00 00 00 00"},
		{[]api.Part{Num(math.MaxInt64)}, "10 ff ff ff ff ff ff ff ff"},
		{[]api.Part{Num(0x0123456789abcdef)}, "10 81 23 45 67 89 ab cd ef"},
		{[]api.Part{Text("")}, "20 00 01"},
		{[]api.Part{Text("\x00\x01\xff")}, "20 00 ff 01 ff 00 01"},
		{[]api.Part{Text("\x00\x00")}, "20 00 ff 00 ff 00 01"},
		{[]api.Part{Text("\x00\xff")}, "20 00 ff ff 00 01"},
		{[]api.Part{Text("\x10 \xc3\x28")}, "20 10 20 c3 28 00 01"},
		{[]api.Part{Text("b"), Text("a"), Num(2)}, "20 62 00 01 20 61 00 01 10 80 00 00 00 00 00 00 02"},
	} {
		if s := encoded(t, c.l); fmt.Sprintf("% x", s) != c.want {
			t.Errorf("Encode(%#v) = % x, want %s", c.l, s, c.want)
		}
	}
}

// P3.1: what Encode refuses, and what it still takes, at each limit.
func TestEncodeRefuses(t *testing.T) {
	long := strings.Repeat("x", api.MaxPart)
	encoded(t, repeat(Text(""), api.MaxParts))
	wantRefused(t, repeat(Text(""), api.MaxParts+1), api.ErrFull)
	encoded(t, []api.Part{Text(long)})
	wantRefused(t, []api.Part{Text(long + "x")}, api.ErrLong)
	for _, kind := range []int{0, 3, -1, 0x10, 0x20, math.MinInt, math.MaxInt, 1 << 32, 1<<32 + 1, 257} {
		wantRefused(t, []api.Part{{Kind: kind}}, api.ErrArg)
		wantRefused(t, []api.Part{Num(1), {Kind: kind, N: 1, S: "a"}}, api.ErrArg)
	}
	wantRefused(t, []api.Part{{}}, api.ErrArg)
	wantRefused(t, []api.Part{{Kind: api.PtNum, S: "a"}}, api.ErrArg)
	wantRefused(t, []api.Part{{Kind: api.PtNum, N: 7, S: "\x00"}}, api.ErrArg)
	for _, n := range []int{1, -1, math.MinInt, math.MaxInt} {
		wantRefused(t, []api.Part{{Kind: api.PtText, N: n}}, api.ErrArg)
		wantRefused(t, []api.Part{{Kind: api.PtText, N: n, S: "a"}}, api.ErrArg)
	}
}

// P3.1: a key of MaxKey bytes is taken, one that is longer is not.
func TestEncodeHoldsMaxKey(t *testing.T) {
	for _, l := range [][]api.Part{
		{Text(strings.Repeat("x", 120)), Text(strings.Repeat("y", 14))},
		{Text(strings.Repeat("\x00", 68) + "a")},
		{Num(1), Text(strings.Repeat("x", 110)), Num(2), Text(strings.Repeat("\x00", 3))},
		append(repeat(Num(1), 15), Text("ab")),
	} {
		if n := len(plainBytes(l)); n != api.MaxKey {
			t.Fatalf("the test's key has %d bytes", n)
		}
		if s := encoded(t, l); s != plainBytes(l) {
			t.Errorf("Encode(%#v) = %q", l, s)
		}
		longer := slices.Clone(l)
		for i, p := range l {
			if p.Kind == api.PtText && len(p.S) < api.MaxPart {
				longer[i] = Text(p.S + "z")
			}
		}
		wantRefused(t, longer, api.ErrLong)
	}
	wantRefused(t, repeat(Num(0), api.MaxParts), api.ErrLong)
	wantRefused(t, []api.Part{Text(strings.Repeat("\x00", 120))}, api.ErrLong)
}

// P3.1: which refusal comes first.
func TestEncodeRefusesInOrder(t *testing.T) {
	tooLong := Text(strings.Repeat("x", api.MaxPart+1))
	other := api.Part{Kind: 3}
	wantRefused(t, repeat(other, api.MaxParts+1), api.ErrFull)
	wantRefused(t, repeat(tooLong, api.MaxParts+1), api.ErrFull)
	wantRefused(t, []api.Part{tooLong, other}, api.ErrLong)
	wantRefused(t, []api.Part{other, tooLong}, api.ErrArg)
	wantRefused(t, []api.Part{Num(1), Text("a"), tooLong, {Kind: api.PtNum, S: "a"}}, api.ErrLong)
	wantRefused(t, []api.Part{{Kind: api.PtText, N: 1, S: tooLong.S}}, api.ErrArg)
	wantRefused(t, []api.Part{{Kind: api.PtNum, S: tooLong.S}}, api.ErrArg)
	wantRefused(t, []api.Part{{Kind: 3, S: tooLong.S}}, api.ErrArg)
	// The bytes of the parts ahead are too many already, and yet the last part's fault is told.
	wantRefused(t, append(repeat(Num(1), api.MaxParts-2), Text(strings.Repeat("x", 20)), other), api.ErrArg)
	wantRefused(t, []api.Part{Text(strings.Repeat("x", 120)), Text(strings.Repeat("x", 120)), {Kind: api.PtText, N: 1}}, api.ErrArg)
}

// P3.1: the parts are neither changed nor kept, and nothing behind the list's end is read.
func TestEncodeLeavesTheList(t *testing.T) {
	l := []api.Part{Num(1), Text("a"), {Kind: 9}}
	s := encoded(t, l[:2])
	if want := plainBytes(l[:2]); s != want {
		t.Errorf("Encode(%#v) = %q, want %q", l[:2], s, want)
	}
	if !slices.Equal(l, []api.Part{{Kind: 1, N: 1}, {Kind: 2, S: "a"}, {Kind: 9}}) {
		t.Errorf("the list is now %#v", l)
	}
	first, _ := Decode(s)
	second, _ := Decode(s)
	first[0] = Num(2)
	if second[0] != Num(1) {
		t.Error("two answers share memory")
	}
}

// P3.1: bytes that are no key's.
func TestDecodeRefuses(t *testing.T) {
	for _, s := range []string{
		"\x00", "\x01", "a", "\xff", "\x0f", "\x11", "\x1f", "\x21", "\x30",
		"\x10", "\x10\x80\x00\x00\x00\x00\x00\x00", "\x00\x80\x00\x00\x00\x00\x00\x00\x01",
		"\x20", "\x20a", "\x20a\x00", "\x20\x00\xff", "\x20\x00\xff\x00", "\x20a\x00\x02", "\x20a\x00\x00\x01", "\x20a\x00\xfe\x00\x01", "\x20a\x01",
		"\x20a\x00\x01\x00", "\x20a\x00\x01a", "\x20a\x00\x01\x01", "\x20a\x00\x01\x10",
		"\x10\x80\x00\x00\x00\x00\x00\x00\x01\x00",
	} {
		wantNoKey(t, s)
	}
}

// P3.1: bytes that Encode would not make of a key, for one of its limits.
func TestDecodeHoldsLimits(t *testing.T) {
	text := func(n int) string { return "\x20" + strings.Repeat("x", n) + "\x00\x01" }
	for _, c := range []struct {
		within, beyond string
	}{
		{"", "\x20"},
		{strings.Repeat(text(0), api.MaxParts), strings.Repeat(text(0), api.MaxParts+1)},
		{text(api.MaxPart), text(api.MaxPart + 1)},
		{text(api.MaxPart) + text(14), text(api.MaxPart) + text(15)},
		{text(2) + strings.Repeat("\x10\x80\x00\x00\x00\x00\x00\x00\x01", 15), text(3) + strings.Repeat("\x10\x80\x00\x00\x00\x00\x00\x00\x01", 15)},
		{"\x20" + strings.Repeat("\x00\xff", 68) + "a\x00\x01", "\x20" + strings.Repeat("\x00\xff", 69) + "\x00\x01"},
	} {
		l, e := Decode(c.within)
		if e != api.OK || plainBytes(l) != c.within {
			t.Errorf("Decode(%q) = %#v, %v", c.within, l, e)
		}
		wantNoKey(t, c.beyond)
	}
	wantNoKey(t, strings.Repeat(text(0), 1<<18))
	wantNoKey(t, text(1<<20))
}

// P3.1: a key that is cut off anywhere but between its parts is none.
func TestDecodeRefusesWhatIsCutOff(t *testing.T) {
	l := []api.Part{Num(-5), Text("a\x00b"), Text(""), Num(math.MaxInt), Text("\xff\x00")}
	s := plainBytes(l)
	ends := map[int]int{0: 0}
	for i := range l {
		ends[len(plainBytes(l[:i+1]))] = i + 1
	}
	for n := range len(s) + 1 {
		parts, whole := ends[n]
		if !whole {
			wantNoKey(t, s[:n])
			continue
		}
		if got, e := Decode(s[:n]); e != api.OK || !slices.Equal(got, l[:parts]) {
			t.Errorf("Decode(%q) = %#v, %v", s[:n], got, e)
		}
	}
}

// holdAgainstForm decodes s, and fails if that is not as the form of keys says.
func holdAgainstForm(t *testing.T, s string) {
	t.Helper()
	if !isKey(s) {
		wantNoKey(t, s)
		return
	}
	l, e := Decode(s)
	if e != api.OK || plainBytes(l) != s {
		t.Errorf("Decode(%q) = %#v, %v", s, l, e)
	}
	for _, p := range l {
		if p != Num(p.N) && p != Text(p.S) {
			t.Errorf("Decode(%q) has the part %#v", s, p)
		}
	}
}

// P3.1: each short row of the bytes that matter is a key's, or is refused.
func TestDecodeOfShortRows(t *testing.T) {
	signs := "\x00\x01\x10\x20a\xff"
	rows := []string{""}
	for range 6 {
		var longer []string
		for _, s := range rows {
			for i := range len(signs) {
				longer = append(longer, s+signs[i:i+1])
			}
		}
		rows = longer
		for _, s := range rows {
			holdAgainstForm(t, s)
		}
	}
}

// P3.1: a key's bytes with one of them changed, gone or added.
func TestDecodeOfChangedBytes(t *testing.T) {
	next := numbers()
	for range 400 {
		s := plainBytes(someKey(next))
		for i := range len(s) {
			changed := []byte(s)
			changed[i] = byte(next())
			holdAgainstForm(t, string(changed))
			holdAgainstForm(t, s[:i]+s[i+1:])
			holdAgainstForm(t, s[:i]+string([]byte{byte(next() % 3)})+s[i:])
		}
	}
}

// P3.2: parts are made as numbers and texts.
func TestPartsAreMade(t *testing.T) {
	for _, n := range []int{0, 1, -1, math.MinInt, math.MaxInt} {
		if p := Num(n); p != (api.Part{Kind: 1, N: n}) {
			t.Errorf("Num(%d) = %v", n, p)
		}
	}
	for _, s := range []string{"", "a", "\x00\x01\xff", strings.Repeat("x", 1000)} {
		if p := Text(s); p != (api.Part{Kind: 2, S: s}) {
			t.Errorf("Text(%q) = %#v", s, p)
		}
	}
}

func wantOrder(t *testing.T, a, b []api.Part, want int) {
	t.Helper()
	if c := Compare(a, b); c != want {
		t.Errorf("Compare(%#v, %#v) = %d, want %d", a, b, c, want)
	}
}

// P3.2: a list of keys that rise, of parts of any kind.
func TestCompareOfRisingKeys(t *testing.T) {
	kind := func(k int) []api.Part { return []api.Part{{Kind: k}} }
	rising := [][]api.Part{
		{},
		kind(math.MinInt),
		kind(-1),
		kind(0),
		{{}, {}},
		{Num(math.MinInt)},
		{Num(-1)},
		{Num(0)},
		{Num(0), {}},
		{Num(0), Num(5)},
		{Num(0), Text("")},
		{Num(0), kind(3)[0]},
		{Num(1)},
		{Num(255)},
		{Num(256)},
		{Num(math.MaxInt)},
		{Text("")},
		{Text(""), Num(1)},
		{Text("\x00")},
		{Text("\x00\x01")},
		{Text("\x01")},
		{Text("a")},
		{Text("a"), Num(1)},
		{Text("a"), Text("a")},
		{Text("a\x00")},
		{Text("a\x00"), Num(math.MinInt)},
		{Text("a\x01")},
		{Text("ab")},
		{Text("a\xff")},
		{Text("b")},
		{Text("\x7f")},
		{Text("\x80")},
		{Text("\xff")},
		{Text(strings.Repeat("\xff", 500))},
		kind(3),
		append(kind(3), Num(1)),
		kind(4),
		kind(math.MaxInt),
		repeat(api.Part{Kind: math.MaxInt}, 40),
	}
	for i, a := range rising {
		for j, b := range rising {
			want := 0
			if i < j {
				want = -1
			} else if i > j {
				want = 1
			}
			wantOrder(t, a, b, want)
		}
	}
	wantOrder(t, nil, []api.Part{}, 0)
}

// P3.2: of a number its size alone counts, of a text its bytes alone, of other kinds nothing but the kind.
func TestCompareByWhatTheKindHas(t *testing.T) {
	for _, kind := range []int{math.MinInt, -1, 0, 3, math.MaxInt} {
		wantOrder(t, []api.Part{{Kind: kind, N: 1, S: "b"}}, []api.Part{{Kind: kind, N: 2, S: "a"}}, 0)
		wantOrder(t, []api.Part{{Kind: kind, N: 1}, Num(2)}, []api.Part{{Kind: kind, S: "a"}, Num(1)}, 1)
	}
	wantOrder(t, []api.Part{{Kind: api.PtNum, N: 1, S: "b"}}, []api.Part{Num(1)}, 0)
	wantOrder(t, []api.Part{{Kind: api.PtNum, N: 1, S: "b"}}, []api.Part{{Kind: api.PtNum, N: 2, S: "a"}}, -1)
	wantOrder(t, []api.Part{{Kind: api.PtText, N: 1, S: "b"}}, []api.Part{Text("b")}, 0)
	wantOrder(t, []api.Part{{Kind: api.PtText, N: 1, S: "b"}}, []api.Part{{Kind: api.PtText, N: 2, S: "a"}}, 1)
	wantOrder(t, []api.Part{{Kind: 0, N: 9, S: "z"}}, []api.Part{Num(math.MinInt)}, -1)
	wantOrder(t, []api.Part{{Kind: 3, N: math.MinInt}}, []api.Part{Text(strings.Repeat("\xff", 200))}, 1)
}

// P3.3: the chapter's examples, and the edges.
func TestAfter(t *testing.T) {
	for _, c := range []struct {
		prefix, want string
	}{
		{"a", "b"},
		{"a\xff", "b"},
		{"\x00", "\x01"},
		{"\x00\xff\xff", "\x01"},
		{"\xfe", "\xff"},
		{"\xfe\xff", "\xff"},
		{"\xff\x00", "\xff\x01"},
		{"\xff\xfe\xff", "\xff\xff"},
		{"a\xffb", "a\xffc"},
		{"ab\x00", "ab\x01"},
		{"\x7f", "\x80"},
		{strings.Repeat("x", 200) + strings.Repeat("\xff", 200), strings.Repeat("x", 199) + "y"},
	} {
		if s, ok := After(c.prefix); s != c.want || !ok {
			t.Errorf("After(%q) = %q, %v, want %q", c.prefix, s, ok, c.want)
		}
	}
	for _, n := range []int{0, 1, 2, 300} {
		if s, ok := After(strings.Repeat("\xff", n)); s != "" || ok {
			t.Errorf("After of %d bytes FF = %q, %v", n, s, ok)
		}
	}
}

// P3.3: whether a text lies below what After tells is whether it begins with the prefix or lies below that.
func TestAfterParts(t *testing.T) {
	signs := "\x00\x01a\xfe\xff"
	texts := []string{""}
	for i := 0; len(texts[i]) < 3; i++ {
		for j := range len(signs) {
			texts = append(texts, texts[i]+signs[j:j+1])
		}
	}
	for _, prefix := range texts {
		bound, ok := After(prefix)
		for _, s := range texts {
			below := !ok || s < bound
			if want := s < prefix || strings.HasPrefix(s, prefix); below != want {
				t.Errorf("After(%q) = %q, %v: %q is below it: %v", prefix, bound, ok, s, below)
			}
		}
	}
}

// P3.4: what is encoded is decoded as it was, and the bytes begin with those of each beginning.
func TestKeysComeBack(t *testing.T) {
	next := numbers()
	for range 5000 {
		l := someKey(next)
		s := encoded(t, l)
		if s != plainBytes(l) {
			t.Errorf("Encode(%#v) = %q", l, s)
		}
		if got, e := Decode(s); e != api.OK || !slices.Equal(got, l) {
			t.Errorf("Decode(%q) = %#v, %v, want %#v", s, got, e, l)
		}
		for i := range len(l) {
			if !strings.HasPrefix(s, encoded(t, l[:i])) {
				t.Errorf("the bytes of %#v do not begin with those of its first %d parts", l, i)
			}
		}
	}
}

// P3.4: bytes stand in the order of their keys.
func TestBytesStandInOrder(t *testing.T) {
	next := numbers()
	for range 20000 {
		a, b := someKey(next), someKey(next)
		want := strings.Compare(plainBytes(a), plainBytes(b))
		if c := strings.Compare(encoded(t, a), encoded(t, b)); c != want {
			t.Errorf("the bytes of %#v and %#v compare as %d, want %d", a, b, c, want)
		}
		wantOrder(t, a, b, want)
	}
}
