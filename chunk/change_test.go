package chunk

import (
	"fmt"
	"math"
	"slices"
	"strings"
	"testing"

	"aquifer/api"
)

// wantWritten fails, if Write tells other bytes than these, or another error.
func wantWritten(t *testing.T, s string, off int, data, want string, wantE api.Errno) {
	t.Helper()
	got, e := Write(s, off, data)
	wantText(t, fmt.Sprintf("Write(%d bytes, %d, %d bytes)", len(s), off, len(data)), got, e, want, wantE)
}

func wantTruncated(t *testing.T, s string, n int, want string, wantE api.Errno) {
	t.Helper()
	got, e := Truncate(s, n)
	wantText(t, fmt.Sprintf("Truncate(%d bytes, %d)", len(s), n), got, e, want, wantE)
}

func wantRead(t *testing.T, s string, off, n int, want string, wantE api.Errno) {
	t.Helper()
	got, e := Read(s, off, n)
	wantText(t, fmt.Sprintf("Read(%d bytes, %d, %d)", len(s), off, n), got, e, want, wantE)
}

// P15.2: what is written within, at the end, behind it, with data and without, written out by hand.
func TestWrite(t *testing.T) {
	for _, c := range []struct {
		s    string
		off  int
		data string
		want string
	}{
		{"", 0, "", ""}, {"", 0, "x", "x"}, {"", 1, "x", "\x00x"}, {"", 1, "", "\x00"}, {"", 3, "", "\x00\x00\x00"},
		{"abc", 0, "", "abc"}, {"abc", 1, "", "abc"}, {"abc", 2, "", "abc"}, {"abc", 3, "", "abc"}, {"abc", 4, "", "abc\x00"}, {"abc", 5, "", "abc\x00\x00"},
		{"abc", 0, "x", "xbc"}, {"abc", 1, "x", "axc"}, {"abc", 2, "x", "abx"}, {"abc", 3, "x", "abcx"}, {"abc", 4, "x", "abc\x00x"}, {"abc", 5, "xy", "abc\x00\x00xy"},
		{"abc", 0, "xyz", "xyz"}, {"abc", 0, "wxyz", "wxyz"}, {"abc", 1, "xyz", "axyz"}, {"abc", 2, "xyz", "abxyz"}, {"abc", 1, "\x00", "a\x00c"}, {"\xff\xfe", 1, "\xfd", "\xff\xfd"},
	} {
		wantWritten(t, c.s, c.off, c.data, c.want, api.OK)
	}
}

// P15.2: what is written at all edges, byte by byte, up to the greatest length and no byte more.
func TestWriteAtTheEdges(t *testing.T) {
	for _, length := range someLengths() {
		s := textOf(length)
		for _, off := range someLengths() {
			for _, n := range []int{0, 1, 2, 63, 64, 65, 4032, 4095, 4096, 4096 - off, 4097 - off, length - off, length - off + 1} {
				if n < 0 {
					continue
				}
				data := anyText(fixedRow(), n)
				if max(length, off+n) > 4096 {
					wantWritten(t, s, off, data, "", api.ErrLong)
				} else {
					wantWritten(t, s, off, data, plainWritten(s, off, data), api.OK)
				}
			}
		}
	}
}

// P15.2: where the bytes are too many, the place may not be, or what comes would be too long, in this order.
func TestWriteRefused(t *testing.T) {
	full := textOf(4096)
	wantWritten(t, full, 4096, "", full, api.OK)
	wantWritten(t, full, 4095, "x", full[:4095]+"x", api.OK)
	wantWritten(t, full, 4096, "x", "", api.ErrLong)
	wantWritten(t, full, 4095, "xy", "", api.ErrLong)
	wantWritten(t, full, 4097, "", "", api.ErrLong)
	wantWritten(t, "", 4096, "", noughts(4096), api.OK)
	wantWritten(t, "", 4097, "", "", api.ErrLong)
	wantWritten(t, "a", 4096, "x", "", api.ErrLong)
	for _, data := range []string{"", "x", textOf(64), full, full + "x", textOf(1 << 16)} {
		for _, off := range beyondAll() {
			wantWritten(t, "", off, data, "", api.ErrLong)
			wantWritten(t, "abc", off, data, "", api.ErrLong)
			wantWritten(t, full, off, data, "", api.ErrLong)
		}
		for _, off := range belowNought() {
			wantWritten(t, "", off, data, "", api.ErrArg)
			wantWritten(t, "abc", off, data, "", api.ErrArg)
			wantWritten(t, full, off, data, "", api.ErrArg)
		}
		for _, n := range longLengths() {
			for _, off := range slices.Concat(belowNought(), beyondAll(), []int{0, 1, 64, 4095, 4096, n}) {
				wantWritten(t, textOf(n), off, data, "", api.ErrLong)
			}
		}
	}
	for _, n := range longLengths() {
		wantWritten(t, "", 0, textOf(n), "", api.ErrLong)
		wantWritten(t, "abc", 1, textOf(n), "", api.ErrLong)
	}
}

// P15.2: what bytes are with fewer and with more of them.
func TestTruncate(t *testing.T) {
	wantTruncated(t, "", 0, "", api.OK)
	wantTruncated(t, "", 2, "\x00\x00", api.OK)
	wantTruncated(t, "abc", 0, "", api.OK)
	wantTruncated(t, "abc", 1, "a", api.OK)
	wantTruncated(t, "abc", 2, "ab", api.OK)
	wantTruncated(t, "abc", 3, "abc", api.OK)
	wantTruncated(t, "abc", 4, "abc\x00", api.OK)
	wantTruncated(t, "abc", 6, "abc\x00\x00\x00", api.OK)
	wantTruncated(t, "abc", 4096, "abc"+noughts(4093), api.OK)
	wantTruncated(t, "abc", 4097, "", api.ErrLong)
	wantTruncated(t, "\xff\x00", 2, "\xff\x00", api.OK)
	for _, length := range someLengths() {
		for _, n := range someLengths() {
			wantTruncated(t, textOf(length), n, plainCut(textOf(length), n), api.OK)
		}
	}
}

// P15.2: where the bytes are too many, the length may not be, or is too great, in this order.
func TestTruncateRefused(t *testing.T) {
	for _, length := range someLengths() {
		for _, n := range belowNought() {
			wantTruncated(t, textOf(length), n, "", api.ErrArg)
		}
		for _, n := range beyondAll() {
			wantTruncated(t, textOf(length), n, "", api.ErrLong)
		}
	}
	for _, length := range longLengths() {
		for _, n := range slices.Concat(belowNought(), beyondAll(), []int{0, 1, 64, 4095, 4096, length}) {
			wantTruncated(t, textOf(length), n, "", api.ErrLong)
		}
	}
}

// P15.2: what is read from the beginning, within, at the end, of none and of more than there are.
func TestRead(t *testing.T) {
	wantRead(t, "", 0, 0, "", api.OK)
	wantRead(t, "", 0, 1, "", api.OK)
	wantRead(t, "abcdef", 0, 0, "", api.OK)
	wantRead(t, "abcdef", 0, 6, "abcdef", api.OK)
	wantRead(t, "abcdef", 0, 7, "abcdef", api.OK)
	wantRead(t, "abcdef", 2, 3, "cde", api.OK)
	wantRead(t, "abcdef", 2, 4, "cdef", api.OK)
	wantRead(t, "abcdef", 2, 5, "cdef", api.OK)
	wantRead(t, "abcdef", 5, 1, "f", api.OK)
	wantRead(t, "abcdef", 6, 0, "", api.OK)
	wantRead(t, "abcdef", 6, 1, "", api.OK)
	wantRead(t, "abcdef", 6, math.MaxInt, "", api.OK)
	wantRead(t, "abcdef", 1, math.MaxInt, "bcdef", api.OK)
	wantRead(t, "abcdef", 7, 0, "", api.ErrArg)
	wantRead(t, "\xff\x00\xfe", 1, 1, "\x00", api.OK)
	for _, length := range someLengths() {
		s := textOf(length)
		for _, n := range slices.Concat(someLengths(), beyondAll()) {
			for _, off := range slices.Concat(someLengths(), []int{length - 1, length, length + 1}) {
				if 0 <= off && off <= length {
					wantRead(t, s, off, n, plainRead(s, off, n), api.OK)
				} else {
					wantRead(t, s, off, n, "", api.ErrArg)
				}
			}
		}
	}
}

// P15.2: where the bytes are too many, or a place or a number may not be, in this order.
func TestReadRefused(t *testing.T) {
	good := []int{0, 1, 64, 4096}
	for _, length := range someLengths() {
		s := textOf(length)
		for _, off := range slices.Concat(belowNought(), beyondAll()) {
			for _, n := range slices.Concat(belowNought(), beyondAll(), good) {
				wantRead(t, s, off, n, "", api.ErrArg)
			}
		}
		for _, n := range belowNought() {
			wantRead(t, s, 0, n, "", api.ErrArg)
			wantRead(t, s, length, n, "", api.ErrArg)
			wantRead(t, s, length+1, n, "", api.ErrArg)
		}
	}
	for _, length := range longLengths() {
		for _, off := range slices.Concat(belowNought(), beyondAll(), good, []int{length, length + 1}) {
			for _, n := range slices.Concat(belowNought(), beyondAll(), good) {
				wantRead(t, textOf(length), off, n, "", api.ErrLong)
			}
		}
	}
}

// P15.4: chunks, joined, are the bytes.
func TestSplitAndJoin(t *testing.T) {
	row := fixedRow()
	for n := range 4097 {
		s := anyText(row, n)
		l := Split(s)
		if len(l) != Count(n) {
			t.Errorf("Split of %d bytes: %d chunks, Count tells %d", n, len(l), Count(n))
		}
		for i, piece := range l {
			lo, hi := Bounds(n, i)
			wantText(t, fmt.Sprintf("chunk %d of %d bytes", i, n), piece, api.OK, s[lo:hi], api.OK)
		}
		wantJoined(t, l, s)
		wantJoined(t, slices.Clip(l), strings.Join(l, ""))
	}
}

// P15.4: what was written is read, all beside it is as it was, and noughts stand between.
func TestWriteAndRead(t *testing.T) {
	row := fixedRow()
	for range 3000 {
		s := anyText(row, row.IntN(4097))
		off := row.IntN(4097)
		data := anyText(row, row.IntN(4097-off))
		after, e := Write(s, off, data)
		if e != api.OK {
			t.Fatalf("Write(%d bytes, %d, %d bytes): %v", len(s), off, len(data), e)
		}
		wantRead(t, after, off, len(data), data, api.OK)
		wantRead(t, after, 0, off, plainCut(s, off), api.OK)
		wantRead(t, after, off+len(data), 4096, plainRead(s, off+len(data), 4096), api.OK)
	}
}

// P15.4: what was written by many calls, each on what the last one told, is what a list of bytes has.
func TestManyChanges(t *testing.T) {
	row := fixedRow()
	s, want := "", ""
	for range 3000 {
		var e api.Errno
		off := row.IntN(4097)
		switch row.IntN(3) {
		case 0:
			s, e = Truncate(s, off)
			want = plainCut(want, off)
		case 1:
			s, e = Write(s, off, "")
			want = plainWritten(want, off, "")
		case 2:
			data := anyText(row, row.IntN(4097-off))
			s, e = Write(s, off, data)
			want = plainWritten(want, off, data)
		}
		wantText(t, "many changes", s, e, want, api.OK)
		wantJoined(t, Split(s), want)
		wantRead(t, s, 0, math.MaxInt, want, api.OK)
	}
}
