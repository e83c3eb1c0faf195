package wal

import (
	"fmt"
	"slices"
	"strings"
	"testing"
	"unsafe"

	"aquifer/api"
	"aquifer/sector"
)

// TestExample is the chapter's own.
func TestExample(t *testing.T) {
	begin := func() (*sector.Disk, *Log) {
		d := aDisk(t, 4)
		l := opened(t, d, 0, 4)
		if l.Room() != 192 {
			t.Errorf("room %d", l.Room())
		}
		added(t, l, "x")
		if l.Room() != 183 {
			t.Errorf("room %d", l.Room())
		}
		return d, l
	}
	wantDeeds(t, "Sync", deedsOf(t, begin, (*Log).Sync), []deed{
		{at: 1, data: filled("\x01\x00\x00\x00" + low4(plainSum("\x01\x00\x00\x00x")) + "x")}, flush,
		{at: 0, data: plainHead(0, 9)}, flush,
	})
}

// P8.1 to P8.5: nil, and what Open did not make, refuse all and tell nothing.
func TestNotMade(t *testing.T) {
	for what, l := range map[string]*Log{"nil": nil, "plain": {}} {
		for range 2 {
			for _, rec := range []string{"", "a", strings.Repeat("a", api.MaxRec+1)} {
				wantE(t, what+": Add", l.Add(rec), api.ErrNil)
			}
			wantE(t, what+": Sync", l.Sync(), api.ErrNil)
			wantE(t, what+": Reset", l.Reset(), api.ErrNil)
			l.Drop()
			if l.Epoch() != 0 || l.Waiting() != 0 || l.Room() != 0 || len(l.Records()) != 0 {
				t.Errorf("%s: epoch %d, waiting %d, room %d, records %q", what, l.Epoch(), l.Waiting(), l.Room(), l.Records())
			}
		}
	}
}

// P8.2: records wait one behind the other, and take room; nothing is done to the disk.
func TestAdd(t *testing.T) {
	d := laid(t, 9, 1, 5, "old")
	l := opened(t, d, 1, 8)
	ahead, done := all(t, d), d.Done()
	var waiting []string
	for _, n := range []int{0, 1, 63, 64, 65, 0, 100} {
		waiting = append(waiting, textOf(n))
		wantE(t, "Add", l.Add(textOf(n)), api.OK)
		wantIs(t, "added", l, 8, 5, waiting, []string{"old"})
	}
	if d.Done() != done || !slices.Equal(all(t, d), ahead) {
		t.Error("Add has written")
	}
	wantE(t, "Sync", l.Sync(), api.OK)
	wantIs(t, "synced", l, 8, 5, nil, append([]string{"old"}, waiting...))
}

// P8.2: a record has up to MaxRec bytes; a longer one is refused, be there room or not, and does not wait.
func TestAddLong(t *testing.T) {
	const n = 3000
	l := opened(t, aDisk(t, n), 0, n)
	most := textOf(api.MaxRec)
	wantE(t, "MaxRec", l.Add(most), api.OK)
	wantIs(t, "MaxRec", l, n, 0, []string{most}, nil)
	for _, more := range []int{1, 2, 64, api.MaxRec} {
		wantE(t, "above MaxRec", l.Add(textOf(api.MaxRec+more)), api.ErrLong)
		wantIs(t, "above MaxRec", l, n, 0, []string{most}, nil)
	}
	wantE(t, "Sync", l.Sync(), api.OK)
	wantIs(t, "synced", l, n, 0, nil, []string{most})

	small := opened(t, aDisk(t, 2), 0, 2)
	wantE(t, "long, and no room", small.Add(textOf(api.MaxRec+1)), api.ErrLong)
	wantE(t, "no room", small.Add(textOf(api.MaxRec)), api.ErrFull)
	wantIs(t, "refused", small, 2, 0, nil, nil)
}

// P8.2: MaxRec bytes in a part that has just the room, and in one that lacks a sector.
func TestAddMaxRecFits(t *testing.T) {
	const least = 1 + (8+api.MaxRec+63)/64
	most := textOf(api.MaxRec)
	l := opened(t, aDisk(t, least), 0, least)
	synced(t, l, most)
	wantIs(t, "just fits", l, least, 0, nil, []string{most})
	l = opened(t, aDisk(t, least), 0, least-1)
	wantE(t, "lacks a sector", l.Add(most), api.ErrFull)
	wantIs(t, "lacks a sector", l, least-1, 0, nil, nil)
}

// P8.2: a frame of just the room's bytes is taken; one byte more is refused, and does not wait: whether records, waiting ones, or none, have taken room ahead.
func TestAddFull(t *testing.T) {
	for n := 2; n < 6; n++ {
		for _, recs := range [][]string{nil, textsOf(0), textsOf(1), textsOf(3, 4), textsOf(56 - 8)} {
			for _, waiting := range [][]string{nil, textsOf(0), textsOf(0, 0)} {
				l := opened(t, laid(t, 6, 0, 0, recs...), 0, n)
				if l.Room() < len(plainFrames(waiting...)) {
					continue
				}
				added(t, l, waiting...)
				room := l.Room()
				for _, more := range []int{1, 2, 7, 8, 64, 1000} {
					wantE(t, "too much", l.Add(textOf(max(room-8, 0)+more)), api.ErrFull)
					wantIs(t, "too much", l, n, 0, waiting, recs)
				}
				if room < 8 {
					wantE(t, "no room for a frame", l.Add(""), api.ErrFull)
					wantIs(t, "no room for a frame", l, n, 0, waiting, recs)
					continue
				}
				last := textOf(room - 8)
				wantE(t, "just the room", l.Add(last), api.OK)
				wantIs(t, "just the room", l, n, 0, slices.Concat(waiting, []string{last}), recs)
				wantE(t, "no room at all", l.Add(""), api.ErrFull)
				wantE(t, "Sync", l.Sync(), api.OK)
				wantIs(t, "all is taken", l, n, 0, nil, slices.Concat(recs, waiting, []string{last}))
				wantE(t, "no room at all", l.Add(""), api.ErrFull)
				wantE(t, "Sync of none", l.Sync(), api.OK)
			}
		}
	}
}

// P8.2: what was refused is not written by a later Sync.
func TestRefusedIsNotWritten(t *testing.T) {
	d := aDisk(t, 4)
	l := opened(t, d, 0, 4)
	added(t, l, "a")
	wantE(t, "full", l.Add(textOf(192)), api.ErrFull)
	wantE(t, "long", l.Add(textOf(api.MaxRec+1)), api.ErrLong)
	added(t, l, "b")
	wantE(t, "Sync", l.Sync(), api.OK)
	want := []string{plainHead(0, 18), filled(plainFrames("a", "b")), filled(""), filled("")}
	if got := all(t, d); !slices.Equal(got, want) {
		t.Errorf("the disk has %q", got)
	}
}

// P8.2: with Drop none waits any more, and their room is there again; records stay, and nothing is done to the disk.
func TestDrop(t *testing.T) {
	d := laid(t, 6, 0, 2, "old")
	l := opened(t, d, 0, 6)
	done := d.Done()
	l.Drop()
	wantIs(t, "with none", l, 6, 2, nil, []string{"old"})
	for k := range 3 {
		added(t, l, textsOf(1, 2, 3, 100)...)
		l.Drop()
		wantIs(t, fmt.Sprint("turn ", k), l, 6, 2, nil, []string{"old"})
		l.Drop()
		wantE(t, "Sync of none", l.Sync(), api.OK)
	}
	if d.Done() != done || d.Pending() != 0 {
		t.Error("something was written")
	}
	synced(t, l, "new")
	wantIs(t, "behind Drop", l, 6, 2, nil, []string{"old", "new"})
	wantIs(t, "opened anew", opened(t, d, 0, 6), 6, 2, nil, []string{"old", "new"})
	l.Drop()
	wantIs(t, "behind Sync", l, 6, 2, nil, []string{"old", "new"})
}

// P8.2: a record that waits is the log's own: what becomes of the caller's memory does not matter.
func TestAddTakesACopy(t *testing.T) {
	b := []byte("abcdef")
	d := aDisk(t, 3)
	l := opened(t, d, 0, 3)
	added(t, l, unsafe.String(&b[0], len(b)))
	copy(b, "uvwxyz")
	wantE(t, "Sync", l.Sync(), api.OK)
	wantIs(t, "synced", l, 3, 0, nil, []string{"abcdef"})
	wantIs(t, "opened anew", opened(t, d, 0, 3), 3, 0, nil, []string{"abcdef"})
}

// P8.3: with none that waits Sync tells OK and does nothing, with power or without.
func TestSyncOfNone(t *testing.T) {
	for _, recs := range [][]string{nil, {"a"}, textsOf(200)} {
		d := laid(t, 6, 0, 1, recs...)
		l := opened(t, d, 0, 6)
		wantE(t, "Arm", d.Arm(0), api.OK)
		done := d.Done()
		for range 3 {
			wantE(t, "Sync", l.Sync(), api.OK)
		}
		wantE(t, "Off", d.Off(), api.OK)
		wantE(t, "Sync without power", l.Sync(), api.OK)
		if d.Done() != done || d.Pending() != 0 {
			t.Error("something was done")
		}
		wantIs(t, "behind", l, 6, 1, nil, recs)
	}
}

// turns tells what a Sync may come behind, and what it may write: within a sector, up to its end, over several.
func turns() (ahead, waiting [][]string) {
	ahead = [][]string{nil, textsOf(0), textsOf(1), textsOf(20, 20), textsOf(55), textsOf(56), textsOf(57), textsOf(119), textsOf(120), textsOf(121), textsOf(0, 0, 0, 0, 0, 0, 0, 0)}
	waiting = [][]string{textsOf(0), textsOf(1), textsOf(46), textsOf(47), textsOf(48), textsOf(55), textsOf(56), textsOf(57), textsOf(111), textsOf(112), textsOf(120), textsOf(1, 2, 3), textsOf(0, 0, 0, 0, 0, 0, 0, 0), textsOf(40, 50, 60), textsOf(200, 0), {strings.Repeat("\x00", 90)}, {strings.Repeat("\xff", 90)}}
	return ahead, waiting
}

// syncDeeds tells what Sync is to do for a log from base on.
func syncDeeds(base int, epoch uint64, recs, waiting []string) []deed {
	had, more := plainFrames(recs...), plainFrames(waiting...)
	whole := len(had) / 64
	deeds := append(writes(base+1+whole, sectors(had[64*whole:]+more)...), flush)
	return append(deeds, deed{at: base, data: plainHead(epoch, uint32(len(had)+len(more)))}, flush)
}

// P8.3: which sectors Sync writes, in which order, with which bytes, and where it flushes; and what there is behind it.
func TestSyncDeeds(t *testing.T) {
	ahead, waiting := turns()
	for _, base := range []int{0, 3} {
		for _, recs := range ahead {
			for _, more := range waiting {
				const n = 9
				begin := func() (*sector.Disk, *Log) {
					// A write of what is there already could not be seen.
					d := laidOver(t, n+base, base, 6, recs...)
					l := opened(t, d, base, n)
					added(t, l, more...)
					return d, l
				}
				what := fmt.Sprintf("behind %d bytes %d bytes", len(plainFrames(recs...)), len(plainFrames(more...)))
				wantDeeds(t, what, deedsOf(t, begin, (*Log).Sync), syncDeeds(base, 6, recs, more))
				d, l := begin()
				wantE(t, what, l.Sync(), api.OK)
				wantIs(t, what, l, n, 6, nil, slices.Concat(recs, more))
				wantIs(t, what+", opened anew", opened(t, d, base, n), n, 6, nil, slices.Concat(recs, more))
				if d.Pending() != 0 {
					t.Errorf("%s: %d writes are pending", what, d.Pending())
				}
			}
		}
	}
}

// P8.3: behind one Sync the next one goes on where it ended.
func TestSyncAgain(t *testing.T) {
	var recs []string
	d := aDisk(t, 40)
	for k := range 30 {
		more := textsOf(k, 2*k%9)
		begin := func() (*sector.Disk, *Log) {
			d := aDisk(t, 40)
			l := opened(t, d, 2, 30)
			for i := 0; i < len(recs); i += 2 {
				synced(t, l, recs[i:i+2]...)
			}
			added(t, l, more...)
			return d, l
		}
		wantDeeds(t, fmt.Sprint("turn ", k), deedsOf(t, begin, (*Log).Sync), syncDeeds(2, 0, recs, more))
		recs = append(recs, more...)
		l := opened(t, d, 2, 30)
		synced(t, l, more...)
		wantIs(t, fmt.Sprint("turn ", k), l, 30, 0, nil, recs)
	}
}

// P8.3: what lay behind the length is noughts in each sector that is written, and stays in all others.
func TestSyncOverOldBytes(t *testing.T) {
	ahead, waiting := turns()
	for _, recs := range ahead {
		for _, more := range waiting {
			const n = 9
			d := laidOver(t, n, 0, 0, recs...)
			l := opened(t, d, 0, n)
			want := all(t, d)
			synced(t, l, more...)
			for _, x := range syncDeeds(0, 0, recs, more) {
				if !x.flush {
					want[x.at] = x.data
				}
			}
			if got := all(t, d); !slices.Equal(got, want) {
				t.Errorf("behind %d bytes %d bytes: the disk has %q", len(plainFrames(recs...)), len(plainFrames(more...)), got)
			}
		}
	}
}

// P8.4: Reset writes the head of the next epoch, and flushes it; then there are no records, and all room is there again.
func TestReset(t *testing.T) {
	for _, recs := range [][]string{nil, {""}, textsOf(1, 2), textsOf(300)} {
		for _, epoch := range []uint64{0, 1, 255, 256, 1<<32 - 1, 1<<56 - 1, 1<<62 - 2, 1<<62 - 1} {
			const n = 8
			begin := func() (*sector.Disk, *Log) {
				d := laid(t, n+2, 2, epoch, recs...)
				return d, opened(t, d, 2, n)
			}
			wantDeeds(t, "Reset", deedsOf(t, begin, (*Log).Reset), []deed{{at: 2, data: plainHead(epoch+1, 0)}, flush})
			d, l := begin()
			wantE(t, "Reset", l.Reset(), api.OK)
			wantIs(t, "reset", l, n, int(epoch)+1, nil, nil)
			wantIs(t, "opened anew", opened(t, d, 2, n), n, int(epoch)+1, nil, nil)
			synced(t, l, "new")
			wantIs(t, "behind", l, n, int(epoch)+1, nil, []string{"new"})
			wantIs(t, "opened anew", opened(t, d, 2, n), n, int(epoch)+1, nil, []string{"new"})
		}
	}
}

// P8.4: a blank disk's log is reset to epoch 1, and again and again.
func TestResetAgain(t *testing.T) {
	d := aDisk(t, 3)
	l := opened(t, d, 0, 3)
	for k := range 300 {
		wantIs(t, "again", l, 3, k, nil, nil)
		if k%2 == 1 {
			synced(t, l, textOf(k%99))
		}
		wantE(t, "Reset", l.Reset(), api.OK)
	}
	wantIs(t, "opened anew", opened(t, d, 0, 3), 3, 300, nil, nil)
}

// P8.4: with some that wait Reset is refused, and with the last epoch; the first one of both is told, and nothing is changed.
func TestResetRefused(t *testing.T) {
	for _, epoch := range []uint64{0, 7, 1 << 62} {
		for _, waiting := range [][]string{nil, {""}, {"a", "b"}} {
			d := laid(t, 4, 0, epoch, "old")
			l := opened(t, d, 0, 4)
			added(t, l, waiting...)
			want := api.OK
			switch {
			case len(waiting) > 0:
				want = api.ErrState
			case epoch == 1<<62:
				want = api.ErrFull
			}
			if want == api.OK {
				continue
			}
			ahead, done := all(t, d), d.Done()
			for range 3 {
				wantE(t, "Reset", l.Reset(), want)
				wantIs(t, "refused", l, 4, int(epoch), waiting, []string{"old"})
			}
			if d.Done() != done || !slices.Equal(all(t, d), ahead) {
				t.Error("Reset has written")
			}
			// It is not lost by that: all else goes on.
			synced(t, l, "new")
			wantIs(t, "behind", l, 4, int(epoch), nil, slices.Concat([]string{"old"}, waiting, []string{"new"}))
		}
	}
}

// P8.4: behind Drop, and behind Sync, Reset is not refused for what waited.
func TestResetBehindDrop(t *testing.T) {
	l := opened(t, aDisk(t, 4), 0, 4)
	added(t, l, "a")
	wantE(t, "Reset", l.Reset(), api.ErrState)
	l.Drop()
	wantE(t, "Reset behind Drop", l.Reset(), api.OK)
	added(t, l, "a")
	wantE(t, "Reset", l.Reset(), api.ErrState)
	wantE(t, "Sync", l.Sync(), api.OK)
	wantE(t, "Reset behind Sync", l.Reset(), api.OK)
	wantIs(t, "behind", l, 4, 2, nil, nil)
}

// P8.4: old frames that lie behind the new length are no records any more, even where the new ones end just where an old one begins.
func TestOldFramesBehindReset(t *testing.T) {
	d := aDisk(t, 6)
	l := opened(t, d, 0, 6)
	synced(t, l, textsOf(56, 56, 56, 56)...)
	wantE(t, "Reset", l.Reset(), api.OK)
	synced(t, l, "new", textOf(64-11-8))
	want := []string{"new", textOf(64 - 11 - 8)}
	wantIs(t, "behind", l, 6, 1, nil, want)
	wantIs(t, "opened anew", opened(t, d, 0, 6), 6, 1, nil, want)
}

// P8.5: what Records told stays as it was, whatever is done later; and changing it changes no log.
func TestRecordsAreNewMemory(t *testing.T) {
	d := aDisk(t, 8)
	l := opened(t, d, 0, 8)
	synced(t, l, "a", "b")
	first, second := l.Records(), l.Records()
	first[0] = "changed"
	_ = append(first, "more")
	wantIs(t, "changed", l, 8, 0, nil, []string{"a", "b"})
	synced(t, l, "c")
	third := l.Records()
	_ = append(third[:1], "more")
	wantE(t, "Reset", l.Reset(), api.OK)
	synced(t, l, "x", "y", "z")
	if !slices.Equal(second, []string{"a", "b"}) || !slices.Equal(third, []string{"a", "more", "c"}) || first[0] != "changed" {
		t.Errorf("what was told is %q, %q, %q now", first, second, third)
	}
	wantIs(t, "behind", l, 8, 1, nil, []string{"x", "y", "z"})
	again := opened(t, d, 0, 8)
	again.Records()[0] = "changed"
	wantIs(t, "opened anew", again, 8, 1, nil, []string{"x", "y", "z"})
}

// P8.5: what waits is no record, and a log tells no other log's.
func TestWaitingIsNoRecord(t *testing.T) {
	d := aDisk(t, 6)
	l := opened(t, d, 0, 6)
	synced(t, l, "a")
	added(t, l, "b", "c")
	wantIs(t, "waiting", l, 6, 0, []string{"b", "c"}, []string{"a"})
	other := opened(t, d, 0, 6)
	wantIs(t, "another one", other, 6, 0, nil, []string{"a"})
	synced(t, l)
	wantIs(t, "another one, opened ahead", other, 6, 0, nil, []string{"a"})
	wantIs(t, "synced", l, 6, 0, nil, []string{"a", "b", "c"})
	wantIs(t, "opened behind", opened(t, d, 0, 6), 6, 0, nil, []string{"a", "b", "c"})
}

// P8.1, P8.3: two logs lie side by side on one disk, and what each does leaves the other one, and all else, as it was.
func TestTwoLogs(t *testing.T) {
	d := aDisk(t, 13)
	put(t, d, 0, "mine")
	put(t, d, 12, "mine too")
	one, two := opened(t, d, 1, 5), opened(t, d, 6, 6)
	synced(t, one, textsOf(100, 3)...)
	synced(t, two, textsOf(7)...)
	added(t, one, "a")
	added(t, two, "b", textOf(200))
	wantE(t, "Sync", two.Sync(), api.OK)
	wantIs(t, "one", one, 5, 0, []string{"a"}, textsOf(100, 3))
	wantE(t, "Sync", one.Sync(), api.OK)
	last := textOf(one.Room() - 8)
	synced(t, one, last)
	wantE(t, "Reset", two.Reset(), api.OK)
	synced(t, two, "c")
	recs := append(textsOf(100, 3), "a", last)
	wantIs(t, "one", one, 5, 0, nil, recs)
	wantIs(t, "two", two, 6, 1, nil, []string{"c"})
	wantIs(t, "one, opened anew", opened(t, d, 1, 5), 5, 0, nil, recs)
	wantIs(t, "two, opened anew", opened(t, d, 6, 6), 6, 1, nil, []string{"c"})
	if got := all(t, d); got[0] != filled("mine") || got[12] != filled("mine too") {
		t.Error("what lies outside was changed")
	}
}

// P8.3, P8.5: others write to the log's part. The log tells what was synced; what Open tells is what the disk has.
func TestOthersWrite(t *testing.T) {
	recs := textsOf(70, 10) // 96 bytes: a sector, and half of one
	begin := func() (*sector.Disk, *Log) {
		d := laid(t, 6, 0, 3, recs...)
		return d, opened(t, d, 0, 6)
	}
	want := append(slices.Clone(recs), "new")

	d, l := begin()
	put(t, d, 0, "spoilt")
	wantIs(t, "head", l, 6, 3, nil, recs)
	refused(t, "head", d, 0, 6, api.ErrForm)
	synced(t, l, "new")
	wantIs(t, "head", opened(t, d, 0, 6), 6, 3, nil, want)

	d, l = begin()
	put(t, d, 1, "spoilt")
	wantIs(t, "a whole sector", l, 6, 3, nil, recs)
	synced(t, l, "new")
	wantIs(t, "a whole sector", l, 6, 3, nil, want)
	refused(t, "a whole sector", d, 0, 6, api.ErrSum)
	if got := all(t, d)[1]; got != filled("spoilt") {
		t.Errorf("a sector was written that is not behind the length: %q", got)
	}

	d, l = begin()
	put(t, d, 2, strings.Repeat("s", 64), "spoilt", "spoilt")
	synced(t, l, "new")
	wantIs(t, "the last sector", l, 6, 3, nil, want)
	refused(t, "the last sector", d, 0, 6, api.ErrSum)
	wanted := []string{filled(strings.Repeat("s", 32) + plainFrame("new")), filled("spoilt"), filled("spoilt")}
	if got := all(t, d)[2:5]; !slices.Equal(got, wanted) {
		t.Errorf("the sectors have %q, want %q", got, wanted)
	}

	d, l = begin()
	put(t, d, 3, "spoilt", "spoilt", "spoilt")
	synced(t, l, "new")
	wantIs(t, "behind the length", opened(t, d, 0, 6), 6, 3, nil, want)
}

// P8.2 to P8.5: a log on all of the greatest disk is filled, told and reset in a time that can be waited for.
func TestGreat(t *testing.T) {
	const n = api.MaxSectors
	d := aDisk(t, n)
	l := opened(t, d, 0, n)
	var recs []string
	for l.Room() >= 8 {
		rec := textOf(min(api.MaxRec-len(recs), l.Room()-8))
		added(t, l, rec)
		recs = append(recs, rec)
	}
	wantE(t, "Sync", l.Sync(), api.OK)
	wantIs(t, "great", l, n, 0, nil, recs)
	wantIs(t, "great, opened anew", opened(t, d, 0, n), n, 0, nil, recs)
	wantE(t, "Reset", l.Reset(), api.OK)
	recs = nil
	for range 20000 {
		recs = append(recs, "")
	}
	synced(t, l, recs...)
	wantIs(t, "many", opened(t, d, 0, n), n, 1, nil, recs)
}
