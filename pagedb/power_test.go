package pagedb

import (
	"fmt"
	"math"
	"math/rand/v2"
	"testing"

	"aquifer/api"
	"aquifer/sector"
)

// keeps tells choices of what is kept of some pending writes: all there are of few; of many none, all, each one alone, all but each one, each beginning, and some more.
func keeps(row *rand.Rand, pending int) [][]bool {
	var all [][]bool
	if pending <= 4 {
		for set := range 1 << pending {
			all = append(all, choice(pending, uint64(set)))
		}
		return all
	}
	all = append(all, nil, choice(pending, 0), choice(pending, math.MaxUint64))
	for i := range pending {
		one, others, first := make([]bool, pending), make([]bool, pending), make([]bool, pending)
		for k := range pending {
			one[k], others[k], first[k] = k == i, k != i, k < i
		}
		all = append(all, one, others, first)
	}
	for range 6 {
		all = append(all, choice(pending, row.Uint64()))
	}
	return all
}

// few tells some of them, where all are too many.
func few(row *rand.Rand, pending int) [][]bool {
	return [][]bool{nil, choice(pending, math.MaxUint64), choice(pending, row.Uint64()), choice(pending, row.Uint64())}
}

// story is what is done to a database, up to an act in which the power goes.
type story struct {
	what   string
	log    int
	begin  func(t *testing.T) (d *sector.Disk, act func() api.Errno, then func(*testing.T, string))
	ahead  plain // what there was
	behind plain // what the act makes
}

// lose lets the power go at a deed of the act, and tells the disk, with power again and with that kept.
func (s story) lose(t *testing.T, what string, goes int, keep []bool) *sector.Disk {
	t.Helper()
	d, act, then := s.begin(t)
	done := d.Done()
	wantE(t, "Arm", d.Arm(goes), api.OK)
	wantE(t, what, act(), api.ErrDown)
	if d.Done()-done != goes {
		t.Errorf("%s: %d deeds were done", what, d.Done()-done)
	}
	then(t, what+", without power")
	wantE(t, "On", d.On(keep), api.OK)
	then(t, what+", with power again")
	if d.Done()-done != goes {
		t.Errorf("%s: what is lost has written", what)
	}
	return d
}

// deeds tells behind each deed of the act how many writes are pending, if the power goes at the next one.
func (s story) deeds(t *testing.T) []int {
	t.Helper()
	var pending []int
	for goes := 0; ; goes++ {
		d, act, _ := s.begin(t)
		wantE(t, "Arm", d.Arm(goes), api.OK)
		if e := act(); e == api.OK {
			return pending
		}
		pending = append(pending, d.Pending())
	}
}

// lostDB tells what there is to be seen of a database and a transaction that are lost: ErrDown.
func lostDB(x *DB, a *Tx, was plain, changed int) func(*testing.T, string) {
	return func(t *testing.T, what string) {
		t.Helper()
		for range 2 {
			wantE(t, what+": Begin", noTx(x.Begin()), api.ErrDown)
			wantE(t, what+": Checkpoint", x.Checkpoint(), api.ErrDown)
			if x.Count() != was.count || x.High() != was.high || x.Free() != len(was.free) {
				t.Errorf("%s: %d, %d, %d", what, x.Count(), x.High(), x.Free())
			}
			if a == nil {
				continue
			}
			for _, id := range []int{-1, 0, 1, 2, 99} {
				wantE(t, what+": Read", errorOf(a.Read(id)), api.ErrDown)
				wantE(t, what+": Write", a.Write(id, 1, ""), api.ErrDown)
				wantE(t, what+": Write of all that may not be", a.Write(id, 0, textOf(501)), api.ErrDown)
				wantE(t, what+": Free", a.Free(id), api.ErrDown)
				wantE(t, what+": SetRoot", a.SetRoot(id, id), api.ErrDown)
			}
			wantE(t, what+": Alloc", noPage(a.Alloc()), api.ErrDown)
			wantE(t, what+": Commit", a.Commit(), api.ErrDown)
			if a.Changed() != changed {
				t.Errorf("%s: changed %d, want %d", what, a.Changed(), changed)
			}
			a.Spoil()
			wantE(t, what+": Commit of one that is spoilt", a.Commit(), api.ErrDown)
		}
	}
}

// grown tells a database, some transactions of which are at their places, and so many more in the log.
func grown(t *testing.T, log, logged int) (*sector.Disk, *DB, plain) {
	t.Helper()
	d, x, p := ofPages(t, log, 6, 3)
	for i := range logged {
		b := paired(t, x, p)
		switch i % 3 {
		case 0:
			b.drop(2)
		case 1:
			b.write(1, 30+i, textOf(100+i))
		case 2:
			b.alloc()
		}
		p = b.commit()
	}
	return d, x, p
}

// changes is what the transactions do in which the power goes.
func changes(b pair) {
	b.write(3, 77, textOf(500))
	b.alloc()
	b.setRoot(1, 4)
}

// commits tells the story of a Commit: with so many records in the log ahead of it.
func commits(t *testing.T, log, logged int) story {
	t.Helper()
	_, x, p := grown(t, log, logged)
	b := paired(t, x, p)
	changes(b)
	return story{
		what: fmt.Sprintf("Commit, a log of %d, behind %d records", log, logged), log: log, ahead: p, behind: b.commit(),
		begin: func(t *testing.T) (*sector.Disk, func() api.Errno, func(*testing.T, string)) {
			d, x, p := grown(t, log, logged)
			b := paired(t, x, p)
			changes(b)
			return d, b.a.Commit, lostDB(x, b.a, p, len(b.p.touched))
		},
	}
}

// checkpoints tells the story of a Checkpoint.
func checkpoints(t *testing.T, log, logged int) story {
	t.Helper()
	_, _, p := grown(t, log, logged)
	return story{
		what: fmt.Sprintf("Checkpoint, a log of %d, behind %d records", log, logged), log: log, ahead: p, behind: p,
		begin: func(t *testing.T) (*sector.Disk, func() api.Errno, func(*testing.T, string)) {
			d, x, p := grown(t, log, logged)
			return d, x.Checkpoint, lostDB(x, nil, p, 0)
		},
	}
}

// opens tells the story of an Open of a disk that has these sectors.
func opens(t *testing.T, log int, image []string, p plain) story {
	t.Helper()
	return story{
		what: fmt.Sprintf("Open, a log of %d", log), log: log, ahead: p, behind: p,
		begin: func(t *testing.T) (*sector.Disk, func() api.Errno, func(*testing.T, string)) {
			d := diskOf(t, image)
			act := func() api.Errno {
				x, e := Open(d, log)
				if (e == api.OK) == (x == nil) {
					t.Errorf("Open: %v, %d", x, e)
				}
				return e
			}
			return d, act, func(*testing.T, string) {}
		},
	}
}

// stories tells all of them: there is room for the record, or pages must be written first.
func stories(t *testing.T) []story {
	all := []story{commits(t, 60, 0), commits(t, 60, 1), commits(t, 26, 1), commits(t, 40, 3), checkpoints(t, 40, 1), checkpoints(t, 80, 3)}
	d, _, p := grown(t, 80, 3)
	return append(all, opens(t, 80, sectorsOf(t, d), p))
}

// sectorsOf tells what a disk keeps.
func sectorsOf(t *testing.T, d *sector.Disk) []string {
	t.Helper()
	if d.Pending() != 0 {
		t.Errorf("%d writes are pending", d.Pending())
	}
	return all(t, d)
}

// P10.1, P10.2, P10.5, P10.6: the power goes at each Write and each Flush of Commit, Checkpoint and Open, with many choices of what is kept: the error is told, all is lost, and Open tells what there was, or what was under way, and goes on from there.
func TestPowerGoes(t *testing.T) {
	row := fixedRow()
	for _, s := range stories(t) {
		seenAhead, seenBehind := 0, 0
		for goes, pending := range s.deeds(t) {
			for _, keep := range keeps(row, pending) {
				what := fmt.Sprintf("%s, at deed %d, kept %v", s.what, goes, keep)
				d := s.lose(t, what, goes, keep)
				x := opened(t, d, s.log)
				got := found(t, x)
				switch {
				case alike(got, s.behind):
					seenBehind++
				case alike(got, s.ahead):
					seenAhead++
				default:
					t.Errorf("%s:\ngot  %v\nwant %v\nor   %v", what, got, s.ahead, s.behind)
				}
				b := paired(t, x, got)
				b.drop(3)
				b.write(b.alloc(), 5, "goes on")
				got = b.commit()
				wantIs(t, what+", gone on", opened(t, d, s.log), got)
				if t.Failed() {
					t.FailNow()
				}
			}
		}
		if seenBehind == 0 || seenAhead == 0 && !alike(s.ahead, s.behind) {
			t.Errorf("%s: ahead %d, behind %d", s.what, seenAhead, seenBehind)
		}
	}
}

// P10.5: once the last Flush of a Commit is done, it is done whatever comes; ahead of its last two deeds nothing of it is.
func TestWhenCommitIsDone(t *testing.T) {
	s := commits(t, 60, 1)
	deeds := s.deeds(t)
	for goes, pending := range deeds {
		for _, keep := range [][]bool{nil, choice(pending, math.MaxUint64)} {
			want := s.ahead
			if goes == len(deeds)-1 && keep != nil {
				want = s.behind
			}
			wantIs(t, fmt.Sprint("at deed ", goes), opened(t, s.lose(t, "Commit", goes, keep), s.log), want)
		}
	}
	d, act, _ := s.begin(t)
	wantE(t, "Commit", act(), api.OK)
	wantE(t, "Off", d.Off(), api.OK)
	wantE(t, "On", d.On(nil), api.OK)
	wantIs(t, "done", opened(t, d, s.log), s.behind)
}

// P10.6: the power goes, and then again within the Open behind it, and again: it tells the same in the end.
func TestPowerGoesAgain(t *testing.T) {
	row := fixedRow()
	for _, s := range stories(t) {
		pending := s.deeds(t)
		for goes, n := range pending {
			if goes%5 != 0 && goes < len(pending)-3 {
				continue
			}
			for _, keep := range few(row, n) {
				image := sectorsOf(t, s.lose(t, s.what, goes, keep))
				p := found(t, opened(t, diskOf(t, image), s.log))
				again := opens(t, s.log, image, p)
				for goes, n := range again.deeds(t) {
					for _, keep := range few(row, n) {
						d := again.lose(t, again.what, goes, keep)
						wantE(t, "Arm", d.Arm(row.IntN(40)), api.OK)
						if _, e := Open(d, s.log); e != api.OK {
							wantE(t, "Open", e, api.ErrDown)
							wantE(t, "On", d.On(choice(d.Pending(), row.Uint64())), api.OK)
						}
						wantE(t, "Arm", d.Arm(-1), api.OK)
						wantIs(t, s.what+", then Open, then Open", opened(t, d, s.log), p)
						if t.Failed() {
							t.FailNow()
						}
					}
				}
			}
		}
	}
}

// P10.2, P10.5: the power goes and comes while nothing is written: nothing is lost by it, and what was open may go on.
func TestOffBetween(t *testing.T) {
	d, x, p := grown(t, 60, 2)
	for range 3 {
		b := paired(t, x, p)
		b.drop(1)
		wantE(t, "Off", d.Off(), api.OK)
		wantE(t, "On", d.On(nil), api.OK)
		b.write(b.alloc(), 9, "a")
		p = b.commit()
		wantIs(t, "gone on", x, p)
		wantIs(t, "opened anew", opened(t, diskOf(t, all(t, d)), 60), p)
	}
	a := begun(t, x)
	wantE(t, "SetRoot", a.SetRoot(0, 9), api.OK)
	wantE(t, "Off", d.Off(), api.OK)
	wantE(t, "Read of the disk without power", errorOf(a.Read(3)), api.ErrDown)
	wantE(t, "Commit without power", a.Commit(), api.ErrDown)
	lostDB(x, a, p, 1)(t, "off")
	wantE(t, "On", d.On(nil), api.OK)
	lostDB(x, a, p, 1)(t, "on again")
	a.Abort()
	wantNothing(t, "aborted", a)
	lostDB(x, nil, p, 0)(t, "aborted")
	wantIs(t, "opened anew", opened(t, d, 60), p)
}

// P10.2, P10.5: any error of the disk is told as it is, and the database is lost.
func TestDiskIsNoneAnyMore(t *testing.T) {
	for _, what := range []string{"Checkpoint", "Commit", "Commit without room"} {
		log := 60
		if what == "Commit without room" {
			log = 26
		}
		d, x, p := grown(t, log, 1)
		switch what {
		case "Checkpoint":
			*d = sector.Disk{}
			wantE(t, what, x.Checkpoint(), api.ErrNil)
			lostDB(x, nil, p, 0)(t, what)
		default:
			b := paired(t, x, p)
			changes(b)
			*d = sector.Disk{}
			wantE(t, what, b.a.Commit(), api.ErrNil)
			lostDB(x, b.a, p, len(b.p.touched))(t, what)
		}
	}
}

// P10.1: of a database that was opened ahead of a loss of power nothing is promised but that its calls end.
func TestOldOnesEnd(t *testing.T) {
	row := fixedRow()
	for range 200 {
		d, old, p := grown(t, 40, row.IntN(3))
		wantE(t, "Off", d.Off(), api.OK)
		wantE(t, "On", d.On(nil), api.OK)
		x := opened(t, d, 40)
		for range 20 {
			b := paired(t, x, p)
			anyChange(row, b)
			anyChange(row, b)
			p = b.commit()
		}
		a := begun(t, old)
		useUp(t, a, 6)
		a = begun(t, old)
		a.Alloc()
		a.Free(1)
		a.Commit()
		old.Checkpoint()
		x, e := Open(d, 40)
		if e != api.OK {
			continue
		}
		useUp(t, begun(t, x), 6)
	}
}

// anyChange does one thing to a transaction.
func anyChange(row *rand.Rand, b pair) {
	b.t.Helper()
	id := row.IntN(b.p.high + 1)
	switch row.IntN(6) {
	case 0, 1:
		b.write(id, row.IntN(256), textOf(row.IntN(502)))
	case 2, 3:
		b.alloc()
	case 4:
		b.drop(id)
	case 5:
		b.setRoot(row.IntN(5), row.IntN(1<<31))
	}
}

// whole is a database in use: the plain one, and what it may be as well behind a loss of power.
type whole struct {
	t     *testing.T
	row   *rand.Rand
	d     *sector.Disk
	log   int
	x     *DB
	p     plain
	under []plain // what was under way when the power went
}

// transact does a transaction, to the end it comes to.
func (w *whole) transact() {
	w.t.Helper()
	b := paired(w.t, w.x, w.p)
	b.t = w.t
	for range w.row.IntN(7) {
		anyChange(w.row, b)
	}
	wantSees(w.t, "any changes", b.a, b.p)
	switch w.row.IntN(8) {
	case 0:
		b.a.Abort()
		return
	case 1:
		b.a.Spoil()
		b.p.spoilt = true
	}
	e, want, k := b.a.Commit(), b.p.commit(w.log), len(b.p.touched)
	if w.d.Down() {
		wantE(w.t, "down", e, api.ErrDown)
		w.under = []plain{b.p.plain}
		lostDB(w.x, b.a, w.p, k)(w.t, "down")
		return
	}
	wantE(w.t, "any Commit", e, want)
	if e == api.OK {
		w.p = b.p.plain
	}
}

// reopen brings the power back, if it went, and takes in which of those that it may be the database is.
func (w *whole) reopen() {
	w.t.Helper()
	for w.d.Down() || w.row.IntN(3) > 0 {
		w.d.Off()
		wantE(w.t, "On", w.d.On(choice(w.d.Pending(), w.row.Uint64())), api.OK)
		w.d.Arm(w.row.IntN(60))
		if _, e := Open(w.d, w.log); e == api.OK {
			break
		}
	}
	if w.d.Down() {
		wantE(w.t, "On", w.d.On(nil), api.OK)
	}
	w.d.Arm(-1)
	w.x = opened(w.t, w.d, w.log)
	got := found(w.t, w.x)
	for _, may := range w.under {
		if alike(got, may) {
			w.p = may
		}
	}
	w.under = nil
	if !alike(got, w.p) {
		w.t.Fatalf("opened:\ngot  %v\nwant %v", got, w.p)
	}
}

// P10.1 to P10.7: whatever is done, in whatever order, and wherever the power goes: Open tells the last that was done, or what was under way.
func TestAnyCalls(t *testing.T) {
	row := fixedRow()
	for range 150 {
		count := 4 + row.IntN(8)
		log := 10 + row.IntN(80)
		d, x := made(t, log, count)
		w := &whole{t: t, row: row, d: d, log: log, x: x, p: fresh(count)}
		for range 60 {
			if row.IntN(6) == 0 {
				d.Arm(row.IntN(100))
			}
			switch row.IntN(12) {
			case 0:
				e := w.x.Checkpoint()
				if d.Down() {
					wantE(t, "down", e, api.ErrDown)
					lostDB(w.x, nil, w.p, 0)(t, "down")
				} else {
					wantE(t, "any Checkpoint", e, api.OK)
				}
			case 1:
				w.reopen()
			default:
				w.transact()
			}
			if d.Down() {
				w.reopen()
			}
			if t.Failed() {
				t.FailNow()
			}
		}
	}
}
