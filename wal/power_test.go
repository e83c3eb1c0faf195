package wal

import (
	"fmt"
	"math/rand/v2"
	"slices"
	"testing"

	"aquifer/api"
	"aquifer/sector"
)

// P8.3, P8.6: the power goes at each Write and Flush of Sync in turn, with each choice of what is kept: ErrDown is told, the log is lost, and Open tells what there was, or all that was under way.
func TestPowerGoesInSync(t *testing.T) {
	const base, n = 1, 9
	row := fixedRow()
	ahead, waiting := turns()
	for _, recs := range ahead {
		for _, more := range waiting {
			deeds := syncDeeds(base, 6, recs, more)
			for goes := range deeds {
				for _, keep := range keeps(row, pendingOf(deeds[:goes])) {
					d := laid(t, n+base, base, 6, recs...)
					l := opened(t, d, base, n)
					added(t, l, more...)
					done := d.Done()
					what := fmt.Sprintf("behind %d bytes %d bytes, at deed %d, kept %v", len(plainFrames(recs...)), len(plainFrames(more...)), goes, keep)
					wantE(t, "Arm", d.Arm(goes), api.OK)
					wantE(t, what, l.Sync(), api.ErrDown)
					if d.Done()-done != goes {
						t.Errorf("%s: %d deeds were done", what, d.Done()-done)
					}
					want := recs
					if goes == len(deeds)-1 && keep[0] {
						want = slices.Concat(recs, more)
					}
					wantLostAndFound(t, what, d, l, keep, base, n, 6, more, recs, 6, want)
					if t.Failed() {
						t.FailNow()
					}
				}
			}
		}
	}
}

// pendingOf tells how many writes are pending behind deeds.
func pendingOf(deeds []deed) int {
	pending := 0
	for _, x := range deeds {
		pending++
		if x.flush {
			pending = 0
		}
	}
	return pending
}

// wantLostAndFound fails, if a log is not lost, without power and with it again, or if Open tells another epoch or other records behind it, or a log that does not go on.
func wantLostAndFound(t *testing.T, what string, d *sector.Disk, l *Log, keep []bool, base, n, epoch int, waiting, recs []string, then int, found []string) {
	t.Helper()
	wantLost(t, what+", without power", l, n, epoch, waiting, recs)
	wantE(t, "On", d.On(keep), api.OK)
	kept, done := all(t, d), d.Done()
	wantLost(t, what+", with power again", l, n, epoch, waiting, recs)
	l.Drop()
	wantLost(t, what+", behind Drop", l, n, epoch, nil, recs)
	if d.Done() != done || !slices.Equal(all(t, d), kept) {
		t.Errorf("%s: a log that is lost has written", what)
	}
	again := opened(t, d, base, n)
	wantIs(t, what+", opened anew", again, n, then, nil, found)
	wantLost(t, what+", beside the new one", l, n, epoch, nil, recs)
	synced(t, again, "x")
	wantIs(t, what+", gone on", opened(t, d, base, n), n, then, nil, append(slices.Clone(found), "x"))
}

// P8.4, P8.6: the power goes at the Write and at the Flush of Reset, with each choice of what is kept.
func TestPowerGoesInReset(t *testing.T) {
	const base, n = 2, 8
	for _, recs := range [][]string{nil, {""}, textsOf(1, 60), textsOf(200)} {
		for goes := range 2 {
			for _, keep := range [][]bool{nil, {false}, {true}, {true, true}} {
				d := laid(t, n+base, base, 6, recs...)
				l := opened(t, d, base, n)
				wantE(t, "Arm", d.Arm(goes), api.OK)
				wantE(t, "Reset", l.Reset(), api.ErrDown)
				epoch, want := 6, recs
				if goes == 1 && len(keep) > 0 && keep[0] {
					epoch, want = 7, nil
				}
				wantLostAndFound(t, fmt.Sprint("at deed ", goes, " kept ", keep), d, l, keep, base, n, 6, nil, recs, epoch, want)
			}
		}
	}
}

// P8.2 to P8.4: a log is lost by what it does to a disk without power, not by that alone.
func TestOffBetween(t *testing.T) {
	begin := func(waiting ...string) (*sector.Disk, *Log) {
		d := laid(t, 5, 0, 1, "old")
		l := opened(t, d, 0, 5)
		added(t, l, waiting...)
		wantE(t, "Off", d.Off(), api.OK)
		return d, l
	}
	old := []string{"old"}

	d, l := begin("a")
	wantE(t, "Sync", l.Sync(), api.ErrDown)
	wantLostAndFound(t, "Sync", d, l, nil, 0, 5, 1, []string{"a"}, old, 1, old)

	d, l = begin()
	wantE(t, "Reset", l.Reset(), api.ErrDown)
	wantLostAndFound(t, "Reset", d, l, nil, 0, 5, 1, nil, old, 1, old)

	d, l = begin("a")
	wantE(t, "Reset with one that waits", l.Reset(), api.ErrState)
	wantE(t, "Add", l.Add("b"), api.OK)
	wantE(t, "Add of too much", l.Add(textOf(300)), api.ErrFull)
	wantIs(t, "off", l, 5, 1, []string{"a", "b"}, old)
	l.Drop()
	wantE(t, "Sync of none", l.Sync(), api.OK)
	wantE(t, "Add", l.Add("c"), api.OK)
	wantE(t, "On", d.On(nil), api.OK)
	wantE(t, "Sync", l.Sync(), api.OK)
	wantIs(t, "on", l, 5, 1, nil, []string{"old", "c"})
	wantIs(t, "opened anew", opened(t, d, 0, 5), 5, 1, nil, []string{"old", "c"})

	d = laid(t, 5, 0, 1<<62, "old")
	l = opened(t, d, 0, 5)
	wantE(t, "Off", d.Off(), api.OK)
	wantE(t, "Reset at the last epoch", l.Reset(), api.ErrFull)
	wantE(t, "On", d.On(nil), api.OK)
	synced(t, l, "c")
	wantIs(t, "on", l, 5, 1<<62, nil, []string{"old", "c"})
}

// P8.2 to P8.4: of a log that is lost ErrDown comes ahead of all that it would refuse else.
func TestLostComesFirst(t *testing.T) {
	d := laid(t, 2, 0, 1<<62, textsOf(48)...)
	l := opened(t, d, 0, 2)
	added(t, l, "")
	wantE(t, "no room", l.Add(""), api.ErrFull)
	wantE(t, "Reset", l.Reset(), api.ErrState)
	wantE(t, "Arm", d.Arm(1), api.OK)
	wantE(t, "Sync", l.Sync(), api.ErrDown)
	wantLost(t, "lost", l, 2, 1<<62, []string{""}, textsOf(48))
	l.Drop()
	wantE(t, "Sync of none", l.Sync(), api.ErrDown)
	wantE(t, "Reset at the last epoch", l.Reset(), api.ErrDown)
}

// P8.3: any error of the disk is told as it is, and the log is lost.
func TestDiskIsNoneAnyMore(t *testing.T) {
	for what, act := range map[string]func(*Log) api.Errno{"Sync": (*Log).Sync, "Reset": (*Log).Reset} {
		for _, recs := range [][]string{nil, {"old"}, textsOf(56)} {
			d := laid(t, 5, 0, 1, recs...)
			l := opened(t, d, 0, 5)
			var waiting []string
			if what == "Sync" {
				waiting = []string{"a"}
			}
			added(t, l, waiting...)
			*d = sector.Disk{}
			wantE(t, what, act(l), api.ErrNil)
			wantLost(t, what, l, 5, 1, waiting, recs)
		}
	}
}

// P8.6: two logs share a disk, and the power goes in one of them: the other one's are not lost with it.
func TestPowerGoesBesideAnother(t *testing.T) {
	for goes := range 5 {
		for _, keep := range keeps(fixedRow(), 2) {
			d := aDisk(t, 8)
			one, two := opened(t, d, 0, 4), opened(t, d, 4, 4)
			synced(t, one, "one")
			synced(t, two, "two")
			added(t, one, textOf(80))
			added(t, two, "more")
			wantE(t, "Arm", d.Arm(goes), api.OK)
			wantE(t, "Sync", one.Sync(), api.ErrDown)
			wantE(t, "On", d.On(keep), api.OK)
			wantE(t, "one is lost", one.Add(""), api.ErrDown)
			wantE(t, "two is not", two.Sync(), api.OK)
			wantIs(t, "two", opened(t, d, 4, 4), 4, 0, nil, []string{"two", "more"})
			want := []string{"one"}
			if goes == 4 && keep[0] {
				want = append(want, textOf(80))
			}
			wantIs(t, "one", opened(t, d, 0, 4), 4, 0, nil, want)
		}
	}
}

// plainLog is a log as its calls tell it.
type plainLog struct {
	base, n, epoch int
	recs, waiting  []string
	nextEpoch      int // with next: what Open may tell as well, if something was under way
	next           []string
	lost           bool
}

// anyCall does something to a log, and to the plain one, and fails, if the one answers otherwise.
func anyCall(t *testing.T, row *rand.Rand, d *sector.Disk, l *Log, p *plainLog) {
	t.Helper()
	room := 64*(p.n-1) - len(plainFrames(p.recs...)) - len(plainFrames(p.waiting...))
	var e, want api.Errno
	switch what := row.IntN(12); {
	case what < 6:
		rec := textOf(row.IntN(min(room+9, 100)))
		e = l.Add(rec)
		switch {
		case p.lost:
			want = api.ErrDown
		case 8+len(rec) > room:
			want = api.ErrFull
		default:
			p.waiting = append(p.waiting, rec)
		}
	case what < 7:
		l.Drop()
		p.waiting = nil
	case what < 10:
		e = l.Sync()
		p.under(t, d, e, len(p.waiting) == 0, api.OK, p.epoch, slices.Concat(p.recs, p.waiting))
		want = e
	default:
		e = l.Reset()
		p.under(t, d, e, len(p.waiting) > 0, api.ErrState, p.epoch+1, nil)
		want = e
	}
	wantE(t, "any call", e, want)
	wantIs(t, "any call", l, p.n, p.epoch, p.waiting, p.recs)
}

// under takes in what Sync or Reset told: idle tells that the disk is not asked, and with is the answer then.
func (p *plainLog) under(t *testing.T, d *sector.Disk, e api.Errno, idle bool, with api.Errno, epoch int, recs []string) {
	t.Helper()
	switch {
	case p.lost:
		wantE(t, "lost", e, api.ErrDown)
	case idle:
		wantE(t, "idle", e, with)
	case d.Down():
		wantE(t, "down", e, api.ErrDown)
		p.lost, p.nextEpoch, p.next = true, epoch, recs
	default:
		wantE(t, "done", e, api.OK)
		p.epoch, p.recs, p.waiting = epoch, recs, nil
	}
}

// found tells the log that Open tells behind a loss of power, and takes in which of the two it may be it is.
func (p *plainLog) found(t *testing.T, d *sector.Disk) *Log {
	t.Helper()
	l := opened(t, d, p.base, p.n)
	if p.lost && l.Epoch() == p.nextEpoch && slices.Equal(l.Records(), p.next) {
		p.epoch, p.recs = p.nextEpoch, p.next
	}
	p.lost, p.waiting = false, nil
	wantIs(t, "found", l, p.n, p.epoch, nil, p.recs)
	return l
}

// P8.6: whatever is done, in whatever order, on two logs side by side, and wherever the power goes: Open tells the last that was done, or what was under way.
func TestAnyCalls(t *testing.T) {
	row := fixedRow()
	for range 400 {
		one := 2 + row.IntN(6)
		two := 2 + row.IntN(6)
		d := aDisk(t, one+two+2)
		put(t, d, 0, "mine")
		put(t, d, d.Size()-1, "mine too")
		plain := []*plainLog{{base: 1, n: one}, {base: 1 + one, n: two}}
		logs := []*Log{opened(t, d, 1, one), opened(t, d, 1+one, two)}
		for range 60 {
			if row.IntN(8) == 0 {
				d.Arm(row.IntN(9))
			}
			k := row.IntN(2)
			anyCall(t, row, d, logs[k], plain[k])
			if d.Down() && row.IntN(3) == 0 {
				wantE(t, "On", d.On(choice(d.Pending(), row.Uint64())), api.OK)
				logs[0], logs[1] = plain[0].found(t, d), plain[1].found(t, d)
			}
			if t.Failed() {
				t.FailNow()
			}
		}
		d.Off()
		wantE(t, "On", d.On(nil), api.OK)
		plain[0].found(t, d)
		plain[1].found(t, d)
		if got := all(t, d); got[0] != filled("mine") || got[d.Size()-1] != filled("mine too") {
			t.Fatal("what lies outside was changed")
		}
	}
}
