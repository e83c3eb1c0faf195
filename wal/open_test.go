package wal

import (
	"fmt"
	"math"
	"slices"
	"strings"
	"testing"

	"aquifer/api"
	"aquifer/sector"
)

// parts tells parts of a disk, most of which it has not.
func parts(size int) [][2]int {
	numbers := []int{math.MinInt, math.MinInt + 1, -1 << 32, -size, -2, -1, 0, 1, 2, 3, size - 2, size - 1, size, size + 1, 2 * size, 1 << 32, 1<<32 + 2, 1 << 62, math.MaxInt - size, math.MaxInt - 2, math.MaxInt - 1, math.MaxInt}
	var all [][2]int
	for _, base := range numbers {
		for _, n := range numbers {
			all = append(all, [2]int{base, n})
		}
	}
	return all
}

// P8.1: of nil, and of a disk that New did not make, whatever the part: ErrNil.
func TestOpenNil(t *testing.T) {
	for _, p := range parts(4) {
		refused(t, "nil", nil, p[0], p[1], api.ErrNil)
		refused(t, "plain", &sector.Disk{}, p[0], p[1], api.ErrNil)
	}
}

// P8.1: without power, whatever the part and whatever the disk has: ErrDown. With it again the log is there.
func TestOpenDown(t *testing.T) {
	for _, head := range []string{"", "spoilt", plainHead(0, 5), plainHead(7, 9)} {
		d := laid(t, 4, 0, 7, "a")
		put(t, d, 0, head)
		wantE(t, "Off", d.Off(), api.OK)
		for _, p := range parts(4) {
			refused(t, "down", d, p[0], p[1], api.ErrDown)
		}
	}
	d := laid(t, 4, 0, 7, "a")
	wantE(t, "Off", d.Off(), api.OK)
	refused(t, "down", d, 0, 4, api.ErrDown)
	wantE(t, "On", d.On(nil), api.OK)
	wantIs(t, "on", opened(t, d, 0, 4), 4, 7, nil, []string{"a"})
}

// isPart tells whether the disk has the part.
func isPart(size, base, n int) bool {
	return base >= 0 && base < size && n >= 2 && n <= size && base+n <= size
}

// P8.1: a part is two sectors at least, all of them the disk's; any other one is ErrArg, whatever the disk has.
func TestOpenPart(t *testing.T) {
	for _, size := range []int{1, 2, 3, 5, 100, api.MaxSectors} {
		blank, spoilt := aDisk(t, size), aDisk(t, size)
		for i := range size {
			wantE(t, "Write", spoilt.Write(i, "spoilt"), api.OK)
		}
		wantE(t, "Flush", spoilt.Flush(), api.OK)
		for _, p := range parts(size) {
			base, n := p[0], p[1]
			if !isPart(size, base, n) {
				refused(t, fmt.Sprint("blank, of ", size), blank, base, n, api.ErrArg)
				refused(t, fmt.Sprint("spoilt, of ", size), spoilt, base, n, api.ErrArg)
				continue
			}
			wantIs(t, "blank", opened(t, blank, base, n), n, 0, nil, nil)
			refused(t, fmt.Sprint("spoilt, of ", size), spoilt, base, n, api.ErrForm)
		}
	}
}

// P8.1: each part of a small disk.
func TestOpenEachPart(t *testing.T) {
	for size := 1; size < 9; size++ {
		d := aDisk(t, size)
		for base := -3; base < size+3; base++ {
			for n := -3; n < size+3; n++ {
				if l, e := Open(d, base, n); isPart(size, base, n) != (l != nil && e == api.OK) || l == nil && e != api.ErrArg {
					t.Errorf("of %d: Open(%d, %d): %v, %d", size, base, n, l, e)
				}
			}
		}
	}
}

// P8.1: a first sector of noughts is the head of epoch 0 and length 0, whatever lies behind it; and so is that head itself.
func TestOpenBlank(t *testing.T) {
	for _, head := range []string{"", filled(""), plainHead(0, 0)} {
		for _, behind := range []string{"", "spoilt", plainFrame("a")} {
			d := aDisk(t, 5)
			put(t, d, 1, head, behind, behind, behind)
			wantIs(t, "blank", opened(t, d, 1, 3), 3, 0, nil, nil)
			wantIs(t, "blank", opened(t, d, 1, 4), 4, 0, nil, nil)
		}
	}
}

// P8.1: noughts but for one byte are no head.
func TestNearlyBlank(t *testing.T) {
	for i := range 64 {
		for _, x := range []byte{1, 128, 255, 'A'} {
			d := aDisk(t, 2)
			b := []byte(filled(""))
			b[i] = x
			put(t, d, 0, string(b))
			refused(t, fmt.Sprint("byte ", i, " is ", x), d, 0, 2, api.ErrForm)
		}
	}
}

// P8.1: a head with any one byte changed is none, and is refused ahead of what lies behind it.
func TestNearlyHead(t *testing.T) {
	for _, behind := range []string{plainFrame("a"), "spoilt", ""} {
		for i := range 64 {
			for _, x := range []byte{1, 2, 16, 128, 255} {
				b := []byte(plainHead(7, 9))
				b[i] ^= x
				d := aDisk(t, 3)
				put(t, d, 0, string(b), behind)
				refused(t, fmt.Sprint("byte ", i, " changed by ", x), d, 0, 3, api.ErrForm)
			}
		}
	}
}

// P8.1: a head by all but its first four signs, its sum being theirs.
func TestNoMark(t *testing.T) {
	for _, mark := range []string{"AQWM", "BQWL", "aqwl", "LWQA", "AQW\x00", "\x00\x00\x00\x00", "AWQL", "QWLA"} {
		s := mark + low8(0) + low4(9)
		d := aDisk(t, 3)
		put(t, d, 0, s+low4(plainSum(s)), plainFrame("a"))
		refused(t, mark, d, 0, 3, api.ErrForm)
	}
	d := aDisk(t, 3)
	put(t, d, 0, plainHead(0, 9), plainFrame("a"))
	wantIs(t, "AQWL", opened(t, d, 0, 3), 3, 0, nil, []string{"a"})
}

// P8.1: a head by all but its sum: one that takes in less, or more, or stands the other way round.
func TestNoSum(t *testing.T) {
	s := "AQWL" + low8(3) + low4(0)
	sum := plainSum(s)
	for what, other := range map[string]uint32{
		"nought":          0,
		"turned":          ^sum,
		"one more":        sum + 1,
		"the other way":   sum>>24 | sum>>8&0xff00 | sum<<8&0xff0000 | sum<<24,
		"of the numbers":  plainSum(s[4:]),
		"of the epoch":    plainSum(s[4:12]),
		"without length":  plainSum(s[:12]),
		"of the sector":   plainSum(filled(s)),
		"of twenty bytes": plainSum(s + low4(0)),
	} {
		d := aDisk(t, 2)
		put(t, d, 0, s+low4(other))
		refused(t, what, d, 0, 2, api.ErrForm)
	}
}

// P8.1: a head by all but the noughts behind it.
func TestNoNoughtsBehind(t *testing.T) {
	good := plainHead(3, 0)[:20]
	for i := 20; i < 64; i++ {
		d := aDisk(t, 2)
		put(t, d, 0, good+strings.Repeat("\x00", i-20)+"\x01")
		refused(t, fmt.Sprint("byte ", i), d, 0, 2, api.ErrForm)
	}
	d := aDisk(t, 2)
	put(t, d, 0, good)
	wantIs(t, "noughts", opened(t, d, 0, 2), 2, 3, nil, nil)
}

// P8.1: the length goes up to all bytes of the part; one more is refused as no head, whatever the disk has behind the part.
func TestLengthOfHead(t *testing.T) {
	for n := 2; n < 6; n++ {
		most := 64 * (n - 1)
		recs := []string{textOf(most - 8)}
		d := laid(t, 8, 1, 4, recs...)
		wantIs(t, "the greatest length", opened(t, d, 1, n), n, 4, nil, recs)
		for _, length := range []uint32{uint32(most) + 1, uint32(most) + 64, 1 << 16, 1 << 31, math.MaxUint32, 1<<31 + 9, 1 << 30} {
			put(t, d, 1, plainHead(4, length))
			refused(t, fmt.Sprint("length ", length), d, 1, n, api.ErrForm)
		}
		// A log that is good on more sectors has too great a length on less.
		d = laid(t, 8, 1, 4, textOf(most-8+1))
		refused(t, "one more", d, 1, n, api.ErrForm)
		wantIs(t, "one sector more", opened(t, d, 1, n+1), n+1, 4, nil, []string{textOf(most - 7)})
	}
}

// P8.1: the epoch goes up to 2^62; a greater one is refused as no head.
func TestEpochOfHead(t *testing.T) {
	d := aDisk(t, 3)
	good := []uint64{0, 1, 2, 255, 256, 1 << 16, 1 << 24, 1 << 31, 1 << 32, 1 << 40, 1 << 48, 1 << 56, 0x0102030405060708, 1<<62 - 1, 1 << 62}
	for _, epoch := range good {
		put(t, d, 0, plainHead(epoch, 9), plainFrame("a"))
		wantIs(t, fmt.Sprint("epoch ", epoch), opened(t, d, 0, 3), 3, int(epoch), nil, []string{"a"})
	}
	for _, epoch := range []uint64{1<<62 + 1, 1<<62 + 2, 1<<63 - 1, 1 << 63, 1<<63 + 1, math.MaxUint64 - 1, math.MaxUint64} {
		for _, length := range []uint32{0, 9, 10} {
			put(t, d, 0, plainHead(epoch, length), plainFrame("a"))
			refused(t, fmt.Sprint("epoch ", epoch), d, 0, 3, api.ErrForm)
		}
	}
}

// P8.1: of the same bytes each length tells just frames where one ends, and nowhere else.
func TestEachLength(t *testing.T) {
	recs := []string{"a", "", textOf(41), "", textOf(56), textOf(3), textOf(130), "z"}
	frames := plainFrames(recs...)
	d := aDisk(t, 8)
	put(t, d, 1, sectors(frames)...)
	ends := []int{0}
	for i := range recs {
		ends = append(ends, len(plainFrames(recs[:i+1]...)))
	}
	for length := range len(frames) + 1 {
		put(t, d, 0, plainHead(2, uint32(length)))
		count := slices.Index(ends, length)
		if count < 0 {
			refused(t, fmt.Sprint("length ", length), d, 0, 8, api.ErrSum)
			continue
		}
		wantIs(t, fmt.Sprint("length ", length), opened(t, d, 0, 8), 8, 2, nil, recs[:count])
	}
	// Noughts behind the last frame are none.
	for more := 1; more < 40; more++ {
		put(t, d, 0, plainHead(2, uint32(len(frames)+more)))
		refused(t, fmt.Sprint(more, " noughts"), d, 0, 8, api.ErrSum)
	}
}

// P8.1: any byte of a frame that is another one is found.
func TestEachByteOfFrames(t *testing.T) {
	frames := plainFrames("a", "", textOf(70), textOf(9))
	for i := range len(frames) {
		for _, x := range []byte{1, 8, 128, 255} {
			b := []byte(frames)
			b[i] ^= x
			d := aDisk(t, 4)
			put(t, d, 0, plainHead(0, uint32(len(frames))))
			put(t, d, 1, sectors(string(b))...)
			refused(t, fmt.Sprint("byte ", i, " changed by ", x), d, 0, 4, api.ErrSum)
		}
	}
}

// P8.1: frames whose sum is another thing's, or whose length goes beyond all.
func TestNoFrames(t *testing.T) {
	size := low4(3)
	sum := plainSum(size + "abc")
	for what, frame := range map[string]string{
		"sum of the record":   size + low4(plainSum("abc")) + "abc",
		"sum of the length":   size + low4(plainSum(size)) + "abc",
		"sum the other way":   size + string([]byte{byte(sum >> 24), byte(sum >> 16), byte(sum >> 8), byte(sum)}) + "abc",
		"sum of nought":       size + low4(0) + "abc",
		"length other way":    "\x00\x00\x00\x03" + low4(plainSum("\x00\x00\x00\x03abc")) + "abc",
		"length with all":     low4(11) + low4(plainSum(low4(11)+"abc")) + "abc",
		"length beyond":       low4(4) + low4(plainSum(low4(4)+"abc")) + "abc",
		"greatest length":     low4(math.MaxUint32) + low4(plainSum(low4(math.MaxUint32)+"abc")) + "abc",
		"length below nought": low4(1<<31) + low4(plainSum(low4(1<<31)+"abc")) + "abc",
		"noughts":             strings.Repeat("\x00", 11),
		"sum ahead of length": low4(sum) + size + "abc",
		"a good one, and one": plainFrame("abc") + "x",
		"one, and a good one": "x" + plainFrame("abc"),
	} {
		for _, n := range []int{2, 3} {
			d := aDisk(t, 4)
			put(t, d, 0, plainHead(0, uint32(len(frame))), frame, "abc", "abc")
			refused(t, what, d, 0, n, api.ErrSum)
			put(t, d, 0, plainHead(0, uint32(len(plainFrame("q")+frame))), plainFrame("q")+frame)
			refused(t, what+" behind a good one", d, 0, n, api.ErrSum)
		}
	}
}

// P8.1: what lies behind the length, and outside the part, is not looked at.
func TestBehindTheLength(t *testing.T) {
	d := aDisk(t, 6)
	put(t, d, 0, "spoilt", plainHead(1, 9), plainFrame("a")+strings.Repeat("\xff", 55), "spoilt", "spoilt", "spoilt")
	wantIs(t, "spoilt around", opened(t, d, 1, 3), 3, 1, nil, []string{"a"})
	wantIs(t, "spoilt around", opened(t, d, 1, 5), 5, 1, nil, []string{"a"})
}

// P8.1: the document gives a frame's record no greatest length, and Open asks for frames alone.
func TestLongRecordOnDisk(t *testing.T) {
	for _, n := range []int{api.MaxRec, api.MaxRec + 1, 3 * api.MaxRec} {
		recs := []string{"a", textOf(n), "b"}
		d := laid(t, 4000, 0, 1, recs...)
		wantIs(t, fmt.Sprint(n), opened(t, d, 0, 4000), 4000, 1, nil, recs)
	}
}

// P8.1: Open looks at what sectors have, be it pending or not, and writes nothing: nor does the power go.
func TestOpenWritesNothing(t *testing.T) {
	for _, pending := range []bool{false, true} {
		for what, head := range map[string]string{"log": plainHead(3, 9), "blank": "", "no head": "spoilt", "no frames": plainHead(3, 8), "too long": plainHead(3, 1000)} {
			d := aDisk(t, 4)
			wantE(t, "Write", d.Write(0, head), api.OK)
			wantE(t, "Write", d.Write(1, plainFrame("a")), api.OK)
			if !pending {
				wantE(t, "Flush", d.Flush(), api.OK)
			}
			wantE(t, "Arm", d.Arm(0), api.OK)
			ahead, count, done := all(t, d), d.Pending(), d.Done()
			l, e := Open(d, 0, 4)
			if what == "log" {
				wantE(t, what, e, api.OK)
				wantIs(t, what, l, 4, 3, nil, []string{"a"})
			}
			if d.Pending() != count || d.Done() != done || d.Down() || !slices.Equal(all(t, d), ahead) {
				t.Errorf("%s: Open has written", what)
			}
		}
	}
}
