package field

import (
	"encoding/binary"
	"fmt"
	"math"
	"math/rand/v2"
	"slices"
	"strings"
	"testing"

	"aquifer/api"
)

func num(tag, n int) api.Field {
	return api.Field{Tag: tag, Kind: api.FdNum, N: n}
}

func text(tag int, s string) api.Field {
	return api.Field{Tag: tag, Kind: api.FdText, S: s}
}

// fixedRow tells numbers that are the same in each run.
func fixedRow() *rand.Rand {
	return rand.New(rand.NewPCG(4, 1))
}

// plainBytes writes a record without fault by other means than the package has.
func plainBytes(l []api.Field) string {
	var b []byte
	for _, f := range l {
		if f.Kind == api.FdNum {
			b = binary.AppendUvarint(append(b, byte(f.Tag<<1)), uint64(f.N))
			continue
		}
		b = append(binary.AppendUvarint(append(b, byte(f.Tag<<1|1)), uint64(len(f.S))), f.S...)
	}
	return string(b)
}

// plainRecord reads a record by other means than the package has, and tells whether there is one. It asks for no more
// than that the bytes be those of some fields: what may not be written it finds by writing them again.
func plainRecord(s string) (l []api.Field, ok bool) {
	b := []byte(s)
	for len(b) > 0 {
		head := b[0]
		n, size := binary.Uvarint(b[1:])
		if size <= 0 || n > 1<<62 {
			return nil, false
		}
		b = b[1+size:]
		if head&1 == 0 {
			l = append(l, num(int(head>>1), int(n)))
			continue
		}
		if n > 4096 || n > uint64(len(b)) {
			return nil, false
		}
		l = append(l, text(int(head>>1), string(b[:n])))
		b = b[n:]
	}
	for i, f := range l {
		if f.Tag < 1 || f.Tag > 63 || i > 0 && l[i-1].Tag > f.Tag {
			return nil, false
		}
	}
	return l, len(s) <= 65536 && plainBytes(l) == s
}

// someField tells a field that may be encoded; few tags, so that many are alike.
func someField(row *rand.Rand) api.Field {
	tags := []int{1, 2, 3, 31, 62, 63}
	tag := tags[row.IntN(len(tags))]
	if row.IntN(2) == 0 {
		return num(tag, row.IntN(1<<62+1)>>row.IntN(63))
	}
	signs := "\x00\x01\x02\x05a\x7f\x80\xff"
	s := ""
	for range row.IntN(5) {
		i := row.IntN(len(signs))
		s += signs[i : i+1]
	}
	return text(tag, strings.Repeat(s, 1+row.IntN(2)*row.IntN(60)))
}

// someRecord tells a record that may be encoded.
func someRecord(row *rand.Rand) []api.Field {
	var l []api.Field
	for range row.IntN(7) {
		l = append(l, someField(row))
	}
	slices.SortStableFunc(l, func(a, b api.Field) int { return a.Tag - b.Tag })
	return l
}

// brief tells fields as a text that is not too long to be read.
func brief(l []api.Field) string {
	return fmt.Sprintf("%d fields %.300s", len(l), fmt.Sprintf("%#v", l))
}

// rowsOf tells all rows of these bytes, up to the length, the shorter ones first.
func rowsOf(signs string, length int) []string {
	rows := []string{""}
	for i := 0; len(rows[i]) < length; i++ {
		for j := range len(signs) {
			rows = append(rows, rows[i]+signs[j:j+1])
		}
	}
	return rows
}

func encoded(t *testing.T, l []api.Field) string {
	t.Helper()
	s, e := Encode(l)
	if e != api.OK {
		t.Fatalf("Encode(%s) = %v", brief(l), e)
	}
	return s
}

func wantRefused(t *testing.T, want api.Errno, l ...api.Field) {
	t.Helper()
	if s, e := Encode(l); s != "" || e != want {
		t.Errorf("Encode(%s) = %.100q, %v, want %v", brief(l), s, e, want)
	}
}

func wantRecord(t *testing.T, s string, want []api.Field) {
	t.Helper()
	if l, e := Decode(s); e != api.OK || !slices.Equal(l, want) {
		t.Errorf("Decode(%.100q) = %s, %v, want %s", s, brief(l), e, brief(want))
	}
}

func wantNoRecord(t *testing.T, s string) {
	t.Helper()
	if l, e := Decode(s); len(l) != 0 || e != api.ErrForm {
		t.Errorf("Decode(%.100q) = %s, %v, want %v", s, brief(l), e, api.ErrForm)
	}
}

// P4.1: the bytes of a record, as the chapter's words and its example have them, and the record again.
func TestEncodeTellsBytes(t *testing.T) {
	for _, c := range []struct {
		l    []api.Field
		want string
	}{
		{nil, ""},
		{[]api.Field{}, ""},
		{[]api.Field{num(1, 300), text(2, "ab")}, "02 ac 02 05 02 61 62"},
		{[]api.Field{num(1, 0)}, "02 00"},
		{[]api.Field{num(1, 1)}, "02 01"},
		{[]api.Field{num(1, 127)}, "02 7f"},
		{[]api.Field{num(1, 128)}, "02 80 01"},
		{[]api.Field{num(1, 255)}, "02 ff 01"},
		{[]api.Field{num(1, 1<<14-1)}, "02 ff 7f"},
		{[]api.Field{num(1, 1<<14)}, "02 80 80 01"},
		{[]api.Field{num(32, 1<<56-1)}, "40 ff ff ff ff ff ff ff 7f"},
		{[]api.Field{num(32, 1<<56)}, "40 80 80 80 80 80 80 80 80 01"},
		{[]api.Field{num(63, api.MaxNum-1)}, "7e ff ff ff ff ff ff ff ff 3f"},
		{[]api.Field{num(63, api.MaxNum)}, "7e 80 80 80 80 80 80 80 80 40"},
		{[]api.Field{text(1, "")}, "03 00"},
		{[]api.Field{text(63, "\x00\xff\x80")}, "7f 03 00 ff 80"},
		{[]api.Field{text(1, "b"), text(1, "a"), num(1, 2), text(3, "")}, "03 01 62 03 01 61 02 02 07 00"},
	} {
		s := encoded(t, c.l)
		if fmt.Sprintf("% x", s) != c.want {
			t.Errorf("Encode(%v) = % x, want %s", c.l, s, c.want)
		}
		wantRecord(t, s, c.l)
	}
}

// P4.1: texts whose lengths take one byte, and two, up to MaxField.
func TestEncodeTellsLengths(t *testing.T) {
	for n, head := range map[int]string{127: "03 7f", 128: "03 80 01", 4095: "03 ff 1f", 4096: "03 80 20"} {
		s := strings.Repeat("x", n)
		got := encoded(t, []api.Field{text(1, s)})
		want := strings.ReplaceAll(head, " ", "")
		if len(got) != n+len(want)/2 || fmt.Sprintf("%x", got[:len(want)/2]) != want || got[len(want)/2:] != s {
			t.Errorf("Encode of a text of %d bytes = %.20q", n, got)
		}
		wantRecord(t, got, []api.Field{text(1, s)})
	}
}

// P4.1: what Encode refuses of one field, and what it still takes, at each limit.
func TestEncodeRefusesFields(t *testing.T) {
	for _, tag := range []int{1, 2, api.MaxTag - 1, api.MaxTag} {
		encoded(t, []api.Field{num(tag, 5)})
		encoded(t, []api.Field{text(tag, "a")})
	}
	for _, tag := range []int{0, api.MaxTag + 1, -1, 127, 128, 257, 1<<32 + 1, math.MinInt, math.MaxInt} {
		wantRefused(t, api.ErrArg, num(tag, 5))
		wantRefused(t, api.ErrArg, text(tag, "a"))
	}
	for _, kind := range []int{-1, 2, 3, 256, 1 << 32, 1<<32 + 1, math.MinInt, math.MaxInt} {
		wantRefused(t, api.ErrArg, api.Field{Tag: 1, Kind: kind})
		wantRefused(t, api.ErrArg, api.Field{Tag: 1, Kind: kind, N: 1})
		wantRefused(t, api.ErrArg, api.Field{Tag: 1, Kind: kind, S: "a"})
	}
	for _, n := range []int{-1, api.MaxNum + 1, -api.MaxNum, math.MinInt, math.MaxInt} {
		wantRefused(t, api.ErrArg, num(1, n))
	}
	wantRefused(t, api.ErrArg, api.Field{})
	wantRefused(t, api.ErrArg, api.Field{Tag: 1, Kind: api.FdNum, S: "a"})
	wantRefused(t, api.ErrArg, api.Field{Tag: 1, Kind: api.FdNum, N: 7, S: "\x00"})
	for _, n := range []int{1, -1, api.MaxNum, api.MaxNum + 1, math.MinInt, math.MaxInt} {
		wantRefused(t, api.ErrArg, api.Field{Tag: 1, Kind: api.FdText, N: n})
		wantRefused(t, api.ErrArg, api.Field{Tag: 1, Kind: api.FdText, N: n, S: "a"})
	}
	encoded(t, []api.Field{text(1, strings.Repeat("x", api.MaxField))})
	wantRefused(t, api.ErrLong, text(1, strings.Repeat("x", api.MaxField+1)))
	wantRefused(t, api.ErrLong, text(1, strings.Repeat("x", 1<<20)))
}

// P4.1: tags may be alike, and rise, but not fall.
func TestEncodeHoldsTheOrderOfTags(t *testing.T) {
	encoded(t, []api.Field{num(1, 1), num(1, 0), text(1, ""), num(2, 0), num(63, 0), text(63, "")})
	wantRefused(t, api.ErrState, num(2, 1), num(1, 1))
	wantRefused(t, api.ErrState, text(2, ""), text(1, ""))
	wantRefused(t, api.ErrState, num(1, 1), num(63, 1), num(62, 1), num(63, 1))
	wantRefused(t, api.ErrState, num(5, 1), num(5, 1), text(4, "a"))
}

// longRecord tells a record of so many bytes, which must be about MaxRec: its last text fills it up.
func longRecord(bytes int) []api.Field {
	var l []api.Field
	for range 15 {
		l = append(l, text(1, strings.Repeat("x", api.MaxField)))
	}
	return append(l, text(2, strings.Repeat("y", bytes-len(plainBytes(l))-3)))
}

// P4.1: a record of MaxRec bytes is taken, one that is longer is not, whatever its fields are.
func TestEncodeHoldsMaxRec(t *testing.T) {
	whole := longRecord(api.MaxRec)
	if n := len(plainBytes(whole)); n != api.MaxRec {
		t.Fatalf("the test's record has %d bytes", n)
	}
	if s := encoded(t, whole); s != plainBytes(whole) {
		t.Errorf("Encode = %d bytes, others than they should be", len(s))
	}
	wantRefused(t, api.ErrLong, longRecord(api.MaxRec+1)...)
	wantRefused(t, api.ErrLong, append(longRecord(api.MaxRec), num(3, 0))...)
	numbers := slices.Repeat([]api.Field{num(1, 0)}, api.MaxRec/2)
	if s := encoded(t, numbers); s != strings.Repeat("\x02\x00", api.MaxRec/2) {
		t.Errorf("Encode = %d bytes, others than they should be", len(s))
	}
	wantRefused(t, api.ErrLong, append(numbers, num(1, 0))...)
	numbers[0].N = 128
	wantRefused(t, api.ErrLong, numbers...)
	// All texts are one, and their bytes would be far more than there is memory for.
	huge := slices.Repeat([]api.Field{text(1, strings.Repeat("x", api.MaxField))}, 1<<20)
	wantRefused(t, api.ErrLong, huge...)
	huge[len(huge)-1].Tag = 0
	wantRefused(t, api.ErrArg, huge...)
}

// P4.1: which refusal comes first: of one field ErrArg, ErrLong, ErrState; of several the first field's; then the length.
func TestEncodeRefusesInOrder(t *testing.T) {
	long := strings.Repeat("x", api.MaxField+1)
	wantRefused(t, api.ErrArg, api.Field{Tag: 1, Kind: api.FdText, N: 1, S: long})
	wantRefused(t, api.ErrArg, api.Field{Tag: 1, Kind: api.FdNum, S: long})
	wantRefused(t, api.ErrArg, api.Field{Tag: 1, Kind: 2, S: long})
	wantRefused(t, api.ErrArg, text(0, long))
	wantRefused(t, api.ErrArg, text(64, long))
	wantRefused(t, api.ErrArg, num(2, 1), num(0, 1))
	wantRefused(t, api.ErrArg, num(2, 1), num(-1, 1))
	wantRefused(t, api.ErrArg, num(2, 1), num(1, -1))
	wantRefused(t, api.ErrArg, num(2, 1), api.Field{Tag: 1, Kind: api.FdText, N: 1, S: long})
	wantRefused(t, api.ErrLong, num(2, 1), text(1, long))
	wantRefused(t, api.ErrLong, text(1, long), num(0, 1))
	wantRefused(t, api.ErrArg, num(0, 1), text(1, long))
	wantRefused(t, api.ErrState, num(2, 1), num(1, 1), num(0, 1))
	wantRefused(t, api.ErrState, num(2, 1), num(1, 1), text(2, long))
	wantRefused(t, api.ErrLong, num(2, 1), text(2, long), num(1, 1))
	wantRefused(t, api.ErrArg, num(2, 1), num(64, 1), num(1, 1))
	// The fields ahead are too many bytes already, and yet the last field's fault is told.
	tooMuch := longRecord(api.MaxRec + 1)
	wantRefused(t, api.ErrArg, append(tooMuch, num(3, -1))...)
	wantRefused(t, api.ErrState, append(tooMuch, num(1, 1))...)
}

// P4.1: the fields are not changed, nothing behind the list's end is read, and two answers share no memory.
func TestEncodeLeavesTheList(t *testing.T) {
	l := []api.Field{num(1, 1), text(2, "a"), {Tag: 99}}
	s := encoded(t, l[:2])
	if want := plainBytes(l[:2]); s != want {
		t.Errorf("Encode(%v) = %q, want %q", l[:2], s, want)
	}
	if !slices.Equal(l, []api.Field{{Tag: 1, N: 1}, {Tag: 2, Kind: 1, S: "a"}, {Tag: 99}}) {
		t.Errorf("the list is now %v", l)
	}
	first, _ := Decode(s)
	first[0] = num(5, 5)
	wantRecord(t, s, l[:2])
}

// P4.1: bytes that are no record's.
func TestDecodeRefuses(t *testing.T) {
	for _, s := range []string{
		"\x04\x01\x02\x01", "\x05\x00\x03\x00", "\x05\x00\x02\x00", "\x02\x00\x7e\x00\x7c\x00", // a tag that falls
		"\x00", "\x01", "\x00\x00", "\x00\x01", "\x01\x00", "\x01\x01a", "\x02\x01\x00\x01", // the tag 0
		"\x80\x00", "\x81\x00", "\xff\x00", "\x82\x01", "\x83\x01a", "\x80\x01\x01", // tags above MaxTag
		"\x02", "\x03", "\x02\x80", "\x02\xff\xff", "\x03\x01", "\x03\x80", "\x03\x80\x01", "\x05\x03ab", "\x02\x01\x03", // cut off
		"\x02\x80\x00", "\x02\x81\x00", "\x02\xff\x80\x00", "\x02\x80\x80\x80\x80\x80\x80\x80\x80\x00", // a needless byte
		"\x03\x80\x00", "\x03\x81\x00a", "\x03\x81\x80\x00a",
		"\x02\x81\x80\x80\x80\x80\x80\x80\x80\x40", "\x02\x80\x80\x80\x80\x80\x80\x80\x80\x41", // a number above MaxNum
		"\x02\xff\xff\xff\xff\xff\xff\xff\xff\x7f", "\x02\x80\x80\x80\x80\x80\x80\x80\x80\x80\x01",
		"\x02\x81\x80\x80\x80\x80\x80\x80\x80\x80\x02", "\x02\xff\xff\xff\xff\xff\xff\xff\xff\xff\x01",
		"\x02\x80\x80\x80\x80\x80\x80\x80\x80\x80\x80\x80\x80\x01", "\x02\x80\x80\x80\x80\x80\x80\x80\x80\x80\x00",
		"\x03\x80\x80\x80\x80\x80\x80\x80\x80\x40", "\x03\xff\xff\xff\xff\xff\xff\xff\xff\x7f", "\x03\x81\x80\x80\x80\x80\x80\x80\x80\x80\x02a",
		"\x02\x01a", "\x03\x01ab", "\x02\x01\xff", // more behind
	} {
		wantNoRecord(t, s)
		wantNoRecord(t, "\x02\x05"+s)
	}
	wantNoRecord(t, "\x02"+strings.Repeat("\x80", 60000))
}

// P4.1: bytes that Encode would not make, for one of its limits.
func TestDecodeHoldsLimits(t *testing.T) {
	wantRecord(t, "\x03\x80\x20"+strings.Repeat("x", 4096), []api.Field{text(1, strings.Repeat("x", 4096))})
	wantNoRecord(t, "\x03\x81\x20"+strings.Repeat("x", 4097))
	wantNoRecord(t, "\x03\x80\x80\x03"+strings.Repeat("x", 49152))
	whole := longRecord(api.MaxRec)
	wantRecord(t, plainBytes(whole), whole)
	wantNoRecord(t, plainBytes(longRecord(api.MaxRec+1)))
	wantNoRecord(t, plainBytes(whole)+"\x06\x00")
	wantRecord(t, strings.Repeat("\x02\x07", api.MaxRec/2), slices.Repeat([]api.Field{num(1, 7)}, api.MaxRec/2))
	wantNoRecord(t, strings.Repeat("\x02\x07", api.MaxRec/2+1))
	wantNoRecord(t, strings.Repeat("\x02\x07", 1<<20))
}

// P4.1: a record that is cut off anywhere but between its fields is none.
func TestDecodeRefusesWhatIsCutOff(t *testing.T) {
	l := []api.Field{num(1, 5), num(1, 300), text(2, "a\x00b"), text(2, ""), num(7, api.MaxNum), text(63, strings.Repeat("\xff", 200))}
	s := plainBytes(l)
	ends := map[int]int{0: 0}
	for i := range l {
		ends[len(plainBytes(l[:i+1]))] = i + 1
	}
	for n := range len(s) + 1 {
		if fields, whole := ends[n]; whole {
			wantRecord(t, s[:n], l[:fields])
			continue
		}
		wantNoRecord(t, s[:n])
	}
}

// holdAgainstPlain decodes s, and fails if that is not as the plain way of reading has it.
func holdAgainstPlain(t *testing.T, s string) {
	t.Helper()
	if l, ok := plainRecord(s); ok {
		wantRecord(t, s, l)
		return
	}
	wantNoRecord(t, s)
}

// P4.1: each short row of the bytes that matter is a record's, or is refused.
func TestDecodeOfShortRows(t *testing.T) {
	for _, s := range rowsOf("\x00\x01\x02\x03\x04\x7e\x7f\x80\x82\xff", 5) {
		holdAgainstPlain(t, s)
	}
	for head := range 256 {
		for next := range 256 {
			holdAgainstPlain(t, string([]byte{byte(head), byte(next)}))
			holdAgainstPlain(t, string([]byte{byte(head), byte(next), 'a'}))
		}
	}
}

// P4.1, P4.3: a record's bytes with one of them changed, gone or added.
func TestDecodeOfChangedBytes(t *testing.T) {
	row := fixedRow()
	for range 400 {
		s := plainBytes(someRecord(row))
		for i := range min(len(s), 80) {
			changed := []byte(s)
			changed[i] = byte(row.Uint32())
			holdAgainstPlain(t, string(changed))
			holdAgainstPlain(t, s[:i]+s[i+1:])
			holdAgainstPlain(t, s[:i]+string([]byte{byte(row.IntN(4)) * 0x41})+s[i:])
		}
	}
}

// P4.2: Num and Text tell the first of the tag that is of their kind, of any fields.
func TestNumAndText(t *testing.T) {
	long := strings.Repeat("x", api.MaxField+1)
	l := []api.Field{
		text(5, "a"), num(5, 7), num(5, 8), text(5, "b"),
		{Tag: 3, Kind: 2, N: 9, S: "c"}, {Tag: 3, Kind: -1, N: 9, S: "c"}, num(4, 0), text(6, ""),
		{Tag: -2, Kind: api.FdNum, N: math.MinInt, S: "d"}, {Tag: math.MaxInt, Kind: api.FdText, N: 4, S: long},
		{Tag: 0, Kind: api.FdNum, N: 11}, {Tag: 3, Kind: api.FdText, N: 1, S: "e"}, text(4, "f"),
	}
	for _, c := range []struct {
		tag   int
		n     int
		isNum bool
		s     string
		isTxt bool
	}{
		{5, 7, true, "a", true},
		{3, 0, false, "e", true},
		{4, 0, true, "f", true},
		{6, 0, false, "", true},
		{-2, math.MinInt, true, "", false},
		{math.MaxInt, 0, false, long, true},
		{0, 11, true, "", false},
		{1, 0, false, "", false},
		{math.MinInt, 0, false, "", false},
	} {
		if n, ok := Num(l, c.tag); n != c.n || ok != c.isNum {
			t.Errorf("Num of %d = %d, %v, want %d, %v", c.tag, n, ok, c.n, c.isNum)
		}
		if s, ok := Text(l, c.tag); s != c.s || ok != c.isTxt {
			t.Errorf("Text of %d = %q, %v, want %q, %v", c.tag, s, ok, c.s, c.isTxt)
		}
	}
	for _, none := range [][]api.Field{nil, {}, l[:0]} {
		if n, ok := Num(none, 5); n != 0 || ok {
			t.Errorf("Num of no fields = %d, %v", n, ok)
		}
		if s, ok := Text(none, 5); s != "" || ok {
			t.Errorf("Text of no fields = %q, %v", s, ok)
		}
	}
}

// P4.2: Texts tells all texts of the tag, in order, of any fields.
func TestTexts(t *testing.T) {
	l := []api.Field{
		text(2, "b"), num(2, 1), text(1, "z"), text(2, ""), text(2, "a"), {Tag: 2, Kind: 2, S: "c"},
		{Tag: 2, Kind: api.FdText, N: 5, S: "b"}, text(0, "n"), text(-7, "m"), {Tag: 2, Kind: api.FdNum, S: "d"}, text(2, "behind"),
	}
	for tag, want := range map[int][]string{2: {"b", "", "a", "b"}, 1: {"z"}, 0: {"n"}, -7: {"m"}, 3: nil, math.MaxInt: nil} {
		if got := Texts(l[:10], tag); !slices.Equal(got, want) {
			t.Errorf("Texts of %d = %q, want %q", tag, got, want)
		}
	}
	if got := Texts(nil, 2); len(got) != 0 {
		t.Errorf("Texts of no fields = %q", got)
	}
	first := Texts(l, 2)
	first[0] = "other"
	if second := Texts(l, 2); second[0] != "b" || l[0] != text(2, "b") {
		t.Errorf("an answer shares memory: %q, %v", second, l[0])
	}
}

// P4.2: Put sets a field behind those whose tags are not above its own, ahead of the first one above it.
func TestPut(t *testing.T) {
	l := []api.Field{num(2, 1), text(2, "a"), num(4, 1), num(6, 1), num(6, 2)}
	for _, c := range []struct {
		tag, place int
	}{
		{1, 0}, {2, 2}, {3, 2}, {4, 3}, {5, 3}, {6, 5}, {7, 5}, {0, 0}, {-5, 0}, {math.MinInt, 0}, {math.MaxInt, 5},
	} {
		for _, f := range []api.Field{num(c.tag, 9), text(c.tag, "new"), {Tag: c.tag, Kind: 8, N: -1, S: "x"}} {
			want := slices.Insert(slices.Clone(l), c.place, f)
			if got := Put(l, f); !slices.Equal(got, want) {
				t.Errorf("Put of %v = %v, want %v", f, got, want)
			}
		}
	}
	for _, none := range [][]api.Field{nil, {}} {
		if got := Put(none, num(3, 4)); !slices.Equal(got, []api.Field{num(3, 4)}) {
			t.Errorf("Put into no fields = %v", got)
		}
	}
	// Tags that fall: the first one above it has it ahead.
	if got := Put([]api.Field{num(1, 0), num(5, 0), num(2, 0), num(9, 0)}, num(3, 7)); !slices.Equal(got, []api.Field{num(1, 0), num(3, 7), num(5, 0), num(2, 0), num(9, 0)}) {
		t.Errorf("Put into fields that fall = %v", got)
	}
}

// P4.2: the fields that were handed to Put stay as they were, and so does what lies behind them; the answer shares no
// memory with them.
func TestPutLeavesTheList(t *testing.T) {
	whole := []api.Field{num(1, 1), num(3, 1), num(5, 1), num(7, 1), num(9, 1)}
	was := slices.Clone(whole)
	for tag := range 10 {
		for n := range len(whole) + 1 {
			got := Put(whole[:n], num(tag, 2))
			for i := range got {
				got[i] = text(40, "other")
			}
			_ = append(got, text(41, "other"))
			if !slices.Equal(whole, was) {
				t.Fatalf("Put of tag %d into %d fields changed them to %v", tag, n, whole)
			}
		}
	}
	once := Put(whole, num(4, 2))
	left, right := Put(once, num(6, 3)), Put(once, num(6, 4))
	if !slices.Equal(left, append(append(slices.Clone(once[:4]), num(6, 3)), once[4:]...)) || right[4] != num(6, 4) {
		t.Errorf("two answers share memory: %v, %v", left, right)
	}
}

// P4.3: what is encoded is decoded as it was, and its bytes are those that another writer has.
func TestRecordsComeBack(t *testing.T) {
	row := fixedRow()
	for range 5000 {
		l := someRecord(row)
		s := encoded(t, l)
		if s != plainBytes(l) {
			t.Errorf("Encode(%v) = %q, want %q", l, s, plainBytes(l))
		}
		wantRecord(t, s, l)
	}
	for n := range 63 {
		for _, near := range []int{-1, 0, 1} {
			if v := 1<<n + near; v <= api.MaxNum {
				wantRecord(t, encoded(t, []api.Field{num(1, v)}), []api.Field{num(1, v)})
			}
		}
	}
}

// P4.3: nothing else is decoded as it: two rows of bytes that are decoded alike are alike.
func TestNothingElseIsDecodedAlike(t *testing.T) {
	seen := map[string]string{}
	for _, s := range rowsOf("\x00\x01\x02\x03\x04\x80\x82", 5) {
		if l, e := Decode(s); e == api.OK {
			told := fmt.Sprintf("%#v", append([]api.Field{}, l...))
			if other, there := seen[told]; there {
				t.Errorf("%q and %q are both decoded as %s", other, s, told)
			}
			seen[told] = s
			if again := encoded(t, l); again != s {
				t.Errorf("%q is decoded as %s, which is encoded as %q", s, told, again)
			}
		}
	}
	if len(seen) < 50 {
		t.Errorf("no more than %d rows were records", len(seen))
	}
}

// P4.3: records that are put one by one, whatever the order, may be encoded, and hold the fields by tag, as they came.
func TestWhatIsPutMayBeEncoded(t *testing.T) {
	row := fixedRow()
	for range 2000 {
		var l, came []api.Field
		for range row.IntN(12) {
			f := someField(row)
			l, came = Put(l, f), append(came, f)
		}
		wantRecord(t, encoded(t, l), l)
		slices.SortStableFunc(came, func(a, b api.Field) int { return a.Tag - b.Tag })
		if !slices.Equal(l, came) {
			t.Errorf("put one by one: %v, want %v", l, came)
		}
	}
}
