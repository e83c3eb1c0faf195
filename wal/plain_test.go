package wal

import (
	"encoding/binary"
	"fmt"
	"hash/crc32"
	"math/rand/v2"
	"slices"
	"strings"
	"testing"

	"aquifer/api"
	"aquifer/sector"
)

// What the document says of a log's bytes, told without the program's own words: all tests hold the program against this.

// plainSum tells the sum of a text.
func plainSum(s string) uint32 {
	return crc32.Checksum([]byte(s), crc32.MakeTable(crc32.Castagnoli))
}

// low4 tells a number in four bytes, the lowest first.
func low4(n uint32) string {
	return string(binary.LittleEndian.AppendUint32(nil, n))
}

// low8 tells a number in eight bytes, the lowest first.
func low8(n uint64) string {
	return string(binary.LittleEndian.AppendUint64(nil, n))
}

// plainHead tells a head's sector.
func plainHead(epoch uint64, length uint32) string {
	s := "AQWL" + low8(epoch) + low4(length)
	return filled(s + low4(plainSum(s)))
}

// plainFrame tells a record's frame.
func plainFrame(rec string) string {
	size := low4(uint32(len(rec)))
	return size + low4(plainSum(size+rec)) + rec
}

// plainFrames tells the frames of records, one behind the other.
func plainFrames(recs ...string) string {
	var b strings.Builder
	for _, rec := range recs {
		b.WriteString(plainFrame(rec))
	}
	return b.String()
}

// filled tells a text with the noughts that a sector has behind it.
func filled(s string) string {
	return s + strings.Repeat("\x00", 64-len(s))
}

// sectors tells a text in pieces of a sector, the last one filled with noughts.
func sectors(s string) []string {
	var all []string
	for len(s) > 64 {
		all, s = append(all, s[:64]), s[64:]
	}
	if s == "" {
		return all
	}
	return append(all, filled(s))
}

// fixedRow tells numbers that are the same in each run.
func fixedRow() *rand.Rand {
	return rand.New(rand.NewPCG(8, 1))
}

// textOf tells n bytes that are not alike.
func textOf(n int) string {
	b := make([]byte, n)
	for i := range b {
		b[i] = byte(i*7 + i/64 + n)
	}
	return string(b)
}

// textsOf tells a text for each of these lengths.
func textsOf(lengths ...int) []string {
	var all []string
	for _, n := range lengths {
		all = append(all, textOf(n))
	}
	return all
}

// aDisk tells a disk that has power.
func aDisk(t *testing.T, n int) *sector.Disk {
	t.Helper()
	d, e := sector.New(n)
	if e != api.OK {
		t.Fatalf("a disk of %d sectors: %d", n, e)
	}
	return d
}

// put writes texts to the sectors from one on, and flushes them.
func put(t *testing.T, d *sector.Disk, at int, texts ...string) {
	t.Helper()
	for i, s := range texts {
		wantE(t, "the disk's Write", d.Write(at+i, s), api.OK)
	}
	wantE(t, "the disk's Flush", d.Flush(), api.OK)
}

// all tells what all sectors of a disk have.
func all(t *testing.T, d *sector.Disk) []string {
	t.Helper()
	var texts []string
	for i := range d.Size() {
		s, e := d.Read(i)
		wantE(t, "the disk's Read", e, api.OK)
		texts = append(texts, s)
	}
	return texts
}

// laid tells a disk with one log in it that lies from base on, put there by hand.
func laid(t *testing.T, size, base int, epoch uint64, recs ...string) *sector.Disk {
	t.Helper()
	d := aDisk(t, size)
	frames := plainFrames(recs...)
	put(t, d, base, plainHead(epoch, uint32(len(frames))))
	put(t, d, base+1, sectors(frames)...)
	return d
}

// laidOver tells such a disk, with old bytes all over it, and behind the length too.
func laidOver(t *testing.T, size, base int, epoch uint64, recs ...string) *sector.Disk {
	t.Helper()
	d := aDisk(t, size)
	old := strings.Repeat("\xfe\xfd", 32)
	for i := range size {
		put(t, d, i, old)
	}
	frames := plainFrames(recs...)
	put(t, d, base, plainHead(epoch, uint32(len(frames))))
	put(t, d, base+1, sectors(frames + old)[:(len(frames)+63)/64]...)
	return d
}

// opened tells a log that Open is to tell.
func opened(t *testing.T, d *sector.Disk, base, n int) *Log {
	t.Helper()
	l, e := Open(d, base, n)
	if e != api.OK || l == nil {
		t.Fatalf("Open(%d, %d): %v, %d", base, n, l, e)
	}
	return l
}

// refused fails, if Open tells anything but this error.
func refused(t *testing.T, what string, d *sector.Disk, base, n int, want api.Errno) {
	t.Helper()
	if l, e := Open(d, base, n); l != nil || e != want {
		t.Errorf("%s: Open(%d, %d): %v, %d, want error %d", what, base, n, l, e, want)
	}
}

// added lets records wait, and fails, if one is refused.
func added(t *testing.T, l *Log, recs ...string) {
	t.Helper()
	for _, rec := range recs {
		wantE(t, "Add", l.Add(rec), api.OK)
	}
}

// synced lets records wait and syncs them, all at once.
func synced(t *testing.T, l *Log, recs ...string) {
	t.Helper()
	added(t, l, recs...)
	wantE(t, "Sync", l.Sync(), api.OK)
}

// wantE fails, if a call told another error.
func wantE(t *testing.T, what string, got, want api.Errno) {
	t.Helper()
	if got != want {
		t.Errorf("%s: error %d, want %d", what, got, want)
	}
}

// wantIs fails, if a log on n sectors tells otherwise how it is: its epoch, what waits, its records.
func wantIs(t *testing.T, what string, l *Log, n, epoch int, waiting, recs []string) {
	t.Helper()
	room := 64*(n-1) - len(plainFrames(recs...)) - len(plainFrames(waiting...))
	if l.Epoch() != epoch || l.Waiting() != len(waiting) || l.Room() != room {
		t.Errorf("%s: epoch %d, waiting %d, room %d; want %d, %d, %d", what, l.Epoch(), l.Waiting(), l.Room(), epoch, len(waiting), room)
	}
	if got := l.Records(); !slices.Equal(got, recs) {
		t.Errorf("%s: %d records, want %d, or others: %.200q, want %.200q", what, len(got), len(recs), got, recs)
	}
}

// wantLost fails, if a log that is lost takes anything in, or is changed by what it refuses.
func wantLost(t *testing.T, what string, l *Log, n, epoch int, waiting, recs []string) {
	t.Helper()
	for _, rec := range []string{"", "a", strings.Repeat("a", api.MaxRec+1)} {
		wantE(t, what+": Add", l.Add(rec), api.ErrDown)
	}
	wantE(t, what+": Sync", l.Sync(), api.ErrDown)
	wantE(t, what+": Reset", l.Reset(), api.ErrDown)
	wantIs(t, what, l, n, epoch, waiting, recs)
}

// deed is something that was done to a disk: a Flush, or a Write of a sector.
type deed struct {
	flush bool
	at    int
	data  string
}

// String tells a deed as a failing test shows it.
func (x deed) String() string {
	if x.flush {
		return "Flush"
	}
	return fmt.Sprintf("Write(%d, %q)", x.at, strings.TrimRight(x.data, "\x00"))
}

// flush is the deed of a Flush.
var flush = deed{flush: true}

// writes tells the deeds of writing texts to the sectors from one on.
func writes(at int, texts ...string) []deed {
	var all []deed
	for i, s := range texts {
		all = append(all, deed{at: at + i, data: s})
	}
	return all
}

// deedsOf tells what an act does to the disk, in order. It is done again and again from the same beginning, the power going one deed later each time, and of what is pending then the last write alone is kept: so each write is seen by itself.
func deedsOf(t *testing.T, begin func() (*sector.Disk, *Log), act func(*Log) api.Errno) []deed {
	t.Helper()
	var deeds []deed
	for n := 1; ; n++ {
		d, l := begin()
		ahead, done := all(t, d), d.Done()
		wantE(t, "Arm", d.Arm(n), api.OK)
		e := act(l)
		if d.Done()-done < n {
			wantE(t, "the whole act", e, api.OK)
			return deeds
		}
		pending := d.Pending()
		if pending == 0 {
			deeds = append(deeds, flush)
			continue
		}
		d.Off()
		keep := make([]bool, pending)
		keep[pending-1] = true
		// What was flushed within the act is known already; it is no news of this deed.
		for _, x := range flushed(deeds) {
			ahead[x.at] = x.data
		}
		wantE(t, "On", d.On(keep), api.OK)
		deeds = append(deeds, changed(t, ahead, all(t, d)))
	}
}

// flushed tells the writes that a Flush followed.
func flushed(deeds []deed) []deed {
	var sure, open []deed
	for _, x := range deeds {
		if x.flush {
			sure, open = append(sure, open...), nil
			continue
		}
		open = append(open, x)
	}
	return sure
}

// changed tells the one sector that changed, with what it has now.
func changed(t *testing.T, ahead, now []string) deed {
	t.Helper()
	var deeds []deed
	for i := range now {
		if now[i] != ahead[i] {
			deeds = append(deeds, deed{at: i, data: now[i]})
		}
	}
	if len(deeds) != 1 {
		t.Fatalf("one write changed %d sectors", len(deeds))
	}
	return deeds[0]
}

// wantDeeds fails, if other deeds were done, or in another order.
func wantDeeds(t *testing.T, what string, got, want []deed) {
	t.Helper()
	if !slices.Equal(got, want) {
		t.Errorf("%s: done %v, want %v", what, got, want)
	}
}

// keeps tells choices of what is kept of some pending writes: all there are of few, some of many.
func keeps(row *rand.Rand, pending int) [][]bool {
	var all [][]bool
	if pending <= 7 {
		for set := range 1 << pending {
			all = append(all, choice(pending, uint64(set)))
		}
		return all
	}
	for range 60 {
		all = append(all, choice(pending, row.Uint64()))
	}
	return append(all, nil, choice(pending, 0), choice(pending, 1<<63-1), choice(pending, 1<<pending>>1))
}

// choice tells the lowest bits of a number as bools.
func choice(n int, set uint64) []bool {
	all := make([]bool, n)
	for i := range all {
		all[i] = set>>(i%64)&1 == 1
	}
	return all
}
