package wal

import (
	"strings"

	"aquifer/api"
	"aquifer/castagnoli"
)

// mark begins each head.
const mark = "AQWL"

// Where the parts of a head begin, and where the last one ends.
const (
	headEpoch  = len(mark)
	headLength = headEpoch + 8
	headSum    = headLength + 4
	headEnd    = headSum + 4
)

// Where the sum of a frame begins, and how many bytes a frame has beside its record.
const (
	frameSum   = 4
	frameExtra = frameSum + 4
)

// headText tells a head as its sector has it.
func headText(epoch, length uint64) string {
	var b [api.SectorSize]byte
	copy(b[:], mark)
	putNumber(b[headEpoch:headLength:headLength], epoch)
	putNumber(b[headLength:headSum:headSum], length)
	putNumber(b[headSum:headEnd:headEnd], uint64(castagnoli.Sum(b[:headSum])))
	return string(b[:])
}

// readHead tells the epoch and the length of a head's sector, and whether it is one.
func readHead(s string) (epoch, length uint64, isHead bool) {
	if strings.TrimLeft(s, "\x00") == "" {
		return 0, 0, true
	}
	b := []byte(s)
	epoch = number(b[headEpoch:headLength])
	length = number(b[headLength:headSum])
	// The head that these make has all else that a head must have: the mark, the sum, the noughts.
	return epoch, length, s == headText(epoch, length)
}

// appendFrame puts a record's frame behind b.
func appendFrame(b []byte, rec string) []byte {
	var extra [frameExtra]byte
	size := extra[:frameSum:frameSum]
	putNumber(size, uint64(len(rec)))
	putNumber(extra[frameSum:], uint64(sumOf(size, []byte(rec))))
	b = append(b, extra[:]...)
	return append(b, rec...)
}

// readFrames tells the records of frames that lie one behind the other, and whether b is just that.
func readFrames(b []byte) (records []string, isFrames bool) {
	for len(b) > 0 {
		if len(b) < frameExtra {
			return nil, false
		}
		size, sum, rest := b[:frameSum:frameSum], b[frameSum:frameExtra:frameExtra], b[frameExtra:]
		n := number(size)
		if n > uint64(len(rest)) {
			return nil, false
		}
		rec := rest[:n:n]
		if number(sum) != uint64(sumOf(size, rec)) {
			return nil, false
		}
		records = append(records, string(rec))
		b = rest[n:]
	}
	return records, true
}

// sumOf tells the sum that stands in a frame.
func sumOf(size, rec []byte) uint32 {
	return castagnoli.Update(castagnoli.Sum(size), rec)
}

// putNumber fills b with a number, the lowest byte first.
func putNumber(b []byte, n uint64) {
	for i := range b {
		b[i] = byte(n >> (8 * i))
	}
}

// number tells the number that putNumber put into b.
func number(b []byte) uint64 {
	var n uint64
	for i, x := range b {
		n |= uint64(x) << (8 * i)
	}
	return n
}
