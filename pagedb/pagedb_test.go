package pagedb

import (
	"fmt"
	"math"
	"slices"
	"strings"
	"testing"

	"aquifer/api"
)

// P10.2, P10.7: nil, and what Open did not make.
func TestNoDatabase(t *testing.T) {
	for what, x := range map[string]*DB{"nil": nil, "plain": {}} {
		for range 2 {
			wantE(t, what+": Begin", noTx(x.Begin()), api.ErrNil)
			wantE(t, what+": Checkpoint", x.Checkpoint(), api.ErrNil)
			if x.Count() != 0 || x.High() != 0 || x.Free() != 0 {
				t.Errorf("%s: %d, %d, %d", what, x.Count(), x.High(), x.Free())
			}
		}
	}
}

// wantNothing fails, if a transaction is more than nothing.
func wantNothing(t *testing.T, what string, a *Tx) {
	t.Helper()
	for _, id := range []int{math.MinInt, -1, 0, 1, 2, 99, math.MaxInt} {
		wantE(t, what+": Read", errorOf(a.Read(id)), api.ErrNil)
		wantE(t, what+": Write", a.Write(id, 1, ""), api.ErrNil)
		wantE(t, what+": Write of all that may not be", a.Write(id, 0, textOf(501)), api.ErrNil)
		wantE(t, what+": Free", a.Free(id), api.ErrNil)
		wantE(t, what+": SetRoot", a.SetRoot(id, 1), api.ErrNil)
		wantE(t, what+": SetRoot", a.SetRoot(0, id), api.ErrNil)
		if n := a.Root(id); n != 0 {
			t.Errorf("%s: Root(%d) is %d", what, id, n)
		}
	}
	wantE(t, what+": Alloc", noPage(a.Alloc()), api.ErrNil)
	a.Spoil()
	if n := a.Changed(); n != 0 {
		t.Errorf("%s: Changed is %d", what, n)
	}
	wantE(t, what+": Commit", a.Commit(), api.ErrNil)
	a.Abort()
}

// P10.3 to P10.5: nil, and what Begin did not make.
func TestNoTransaction(t *testing.T) {
	wantNothing(t, "nil", nil)
	wantNothing(t, "plain", &Tx{})
	_, x, p := ofPages(t, 40, 8, 3)
	b := paired(t, x, p)
	b.setRoot(0, 3)
	b.drop(2)
	copied := *b.a
	wantNothing(t, "a copy", &copied)
	wantSees(t, "the one that was copied", b.a, b.p)
	wantIs(t, "behind it", x, b.commit())
}

// P10.3 to P10.5: a transaction that has ended is nothing any more, and does nothing to the one behind it.
func TestEnded(t *testing.T) {
	ends := map[string]func(*Tx) (got, want api.Errno){
		"Commit": func(a *Tx) (api.Errno, api.Errno) { return a.Commit(), api.OK },
		"Abort":  func(a *Tx) (api.Errno, api.Errno) { a.Abort(); return api.OK, api.OK },
		"spoilt": func(a *Tx) (api.Errno, api.Errno) { a.Spoil(); return a.Commit(), api.ErrState },
		"full": func(a *Tx) (api.Errno, api.Errno) {
			for id := range 5 {
				a.Write(id, 1, "")
			}
			return a.Commit(), api.ErrFull
		},
	}
	for what, end := range ends {
		for _, changed := range []bool{false, true} {
			d, x, p := ofPages(t, 30, 8, 4)
			a := begun(t, x)
			if changed {
				wantE(t, "SetRoot", a.SetRoot(2, 0), api.OK)
			}
			got, want := end(a)
			wantE(t, what, got, want)
			wantNothing(t, what, a)
			wantIs(t, what, x, p)
			b := paired(t, x, p)
			b.drop(3)
			b.setRoot(1, 7)
			wantNothing(t, what+", with another one open", a)
			wantE(t, "the other one is open still", noTx(x.Begin()), api.ErrState)
			wantSees(t, what+": the other one", b.a, b.p)
			p = b.commit()
			wantIs(t, what+": the other one", opened(t, d, 30), p)
		}
	}
}

// P10.2: one transaction at a time.
func TestBegin(t *testing.T) {
	_, x := made(t, 40, 8)
	for n := range 4 {
		a := begun(t, x)
		for range 2 {
			wantE(t, "while one is open", noTx(x.Begin()), api.ErrState)
			wantE(t, "Checkpoint while one is open", x.Checkpoint(), api.ErrState)
		}
		if a.Changed() != 0 {
			t.Errorf("changed %d", a.Changed())
		}
		a.Alloc()
		wantE(t, "while one is open, changed", noTx(x.Begin()), api.ErrState)
		wantE(t, "Checkpoint while one is open, changed", x.Checkpoint(), api.ErrState)
		if n%2 == 0 {
			a.Abort()
		} else {
			wantE(t, "Commit", a.Commit(), api.OK)
		}
	}
	if x.High() != 3 {
		t.Errorf("high mark %d", x.High())
	}
}

// P10.2: Checkpoint writes the pages to their places and resets the log, if it has records; else it does nothing.
func TestCheckpoint(t *testing.T) {
	const log, count = 40, 8
	d, x := made(t, log, count)
	wantE(t, "of nothing", x.Checkpoint(), api.OK)
	if d.Done() != 0 {
		t.Error("Checkpoint of nothing has written")
	}
	b := paired(t, x, fresh(count))
	b.write(b.alloc(), 7, "a")
	b.write(b.alloc(), 8, "b")
	b.setRoot(3, 2)
	p := b.commit()
	a := begun(t, x)
	wantE(t, "while one is open", x.Checkpoint(), api.ErrState)
	a.Abort()
	for n := range 3 {
		done := d.Done()
		wantE(t, "Checkpoint", x.Checkpoint(), api.OK)
		if n == 0 && d.Done()-done != 3*8+1+2 || n > 0 && d.Done() != done || d.Pending() != 0 {
			t.Errorf("Checkpoint %d: %d deeds, %d pending", n, d.Done()-done, d.Pending())
		}
		image := all(t, d)
		if !strings.HasPrefix(image[0], plainHead(1, 0)) {
			t.Error("the log is not reset")
		}
		for id, want := range map[int]string{1: plainPage(1, 7, "a"), 2: plainPage(2, 8, "b")} {
			if got := strings.Join(image[log+8*id:log+8*id+8], ""); got != want {
				t.Errorf("page %d at its place: %.20q", id, got)
			}
		}
		wantIs(t, "behind Checkpoint", x, p)
	}
	wantIs(t, "opened anew", opened(t, d, log), p)
}

// P10.2: an error of the disk in Checkpoint is told, and the database is lost; so it is by each of its deeds.
func TestCheckpointFails(t *testing.T) {
	const log, count = 40, 8
	for goes := range 3*8 + 1 + 2 {
		d, x := made(t, log, count)
		b := paired(t, x, fresh(count))
		b.write(b.alloc(), 7, "a")
		b.write(b.alloc(), 8, "b")
		p := b.commit()
		wantE(t, "Arm", d.Arm(goes), api.OK)
		wantE(t, "Checkpoint", x.Checkpoint(), api.ErrDown)
		for range 2 {
			wantE(t, "Begin of one that is lost", noTx(x.Begin()), api.ErrDown)
			wantE(t, "Checkpoint of one that is lost", x.Checkpoint(), api.ErrDown)
			if x.Count() != count || x.High() != 3 || x.Free() != 0 {
				t.Errorf("lost: %d, %d, %d", x.Count(), x.High(), x.Free())
			}
			wantNothing(t, "the one that had ended", b.a)
			d.On(nil)
		}
		if d.Pending() != 0 {
			t.Error("one that is lost has written")
		}
		wantIs(t, "opened anew", opened(t, d, log), p)
		wantE(t, "beside the new one", noTx(x.Begin()), api.ErrDown)
	}
}

// P10.2: without records there is nothing to be written, and so no error of the disk.
func TestCheckpointWithoutRecordsAndPower(t *testing.T) {
	d, x, p := ofPages(t, 40, 8, 2)
	wantE(t, "Arm", d.Arm(0), api.OK)
	wantE(t, "Checkpoint", x.Checkpoint(), api.OK)
	if d.Down() {
		t.Error("it has written")
	}
	wantIs(t, "armed", x, p)
}

// P10.2: what must be written is written in the order of the pages' numbers.
func TestCheckpointRises(t *testing.T) {
	const log, count, n = 80, 12, 8
	d, x, p := ofPages(t, log, count, n)
	b := paired(t, x, p)
	for _, id := range []int{7, 2, 8, 4, 1} {
		b.write(id, 200, textOf(499))
	}
	p = b.commit()
	old := all(t, d)
	rises := []int{1, 2, 4, 7, 8}
	for goes := range 8*len(rises) + 1 {
		d := diskOf(t, old)
		wantE(t, "Arm", d.Arm(goes), api.OK)
		if _, e := Open(d, log); e != api.ErrDown {
			t.Fatalf("Open: %d", e)
		}
		wantE(t, "On", d.On(choice(goes, math.MaxUint64)), api.OK)
		for k, id := range rises {
			want := plainPage(uint32(id), 200, textOf(499))
			sectors := min(max(goes-8*k, 0), 8)
			at := log + 8*id
			if got := strings.Join(all(t, d)[at:at+sectors], ""); got != want[:64*sectors] {
				t.Errorf("behind %d deeds page %d is not written by %d sectors", goes, id, sectors)
			}
			if !slices.Equal(all(t, d)[at+sectors:at+8], old[at+sectors:at+8]) {
				t.Errorf("behind %d deeds page %d is written by more than %d sectors", goes, id, sectors)
			}
		}
	}
	wantIs(t, "opened", opened(t, d, log), p)
}

// P10.5: the same transactions leave the same bytes on the disk, in whatever order the pages were changed.
func TestSameBytes(t *testing.T) {
	var first []string
	for _, order := range [][]int{{1, 2, 3, 4, 5, 6}, {6, 5, 4, 3, 2, 1}, {3, 6, 1, 5, 2, 4}, {3, 6, 1, 5, 2, 4}} {
		d, x, p := ofPages(t, 80, 10, 6)
		b := paired(t, x, p)
		for _, id := range order {
			b.write(id, id, fmt.Sprint("page ", id))
		}
		b.commit()
		if first == nil {
			first = all(t, d)
		}
		if !slices.Equal(all(t, d), first) {
			t.Errorf("in the order %v: other bytes", order)
		}
	}
}

// P10.7: Count, High and Free are the database's, without what a transaction has changed.
func TestCounts(t *testing.T) {
	_, x := made(t, 200, 8)
	want := func(what string, high, free int) {
		t.Helper()
		if x.Count() != 8 || x.High() != high || x.Free() != free {
			t.Errorf("%s: %d, %d, %d, want 8, %d, %d", what, x.Count(), x.High(), x.Free(), high, free)
		}
	}
	want("fresh", 1, 0)
	a := begun(t, x)
	for range 5 {
		a.Alloc()
		want("allocated", 1, 0)
	}
	a.Free(2)
	want("freed", 1, 0)
	wantE(t, "Commit", a.Commit(), api.OK)
	want("committed", 6, 1)
	a = begun(t, x)
	a.Free(1)
	a.Free(5)
	a.Alloc()
	want("freed", 6, 1)
	a.Abort()
	want("aborted", 6, 1)
	a = begun(t, x)
	a.Free(1)
	a.Alloc()
	a.Alloc()
	a.Alloc()
	want("allocated all", 6, 1)
	wantE(t, "Commit", a.Commit(), api.OK)
	want("committed", 7, 0)
	wantE(t, "Checkpoint", x.Checkpoint(), api.OK)
	want("behind Checkpoint", 7, 0)
	a = begun(t, x)
	for id := 1; id < 7; id++ {
		a.Free(id)
	}
	a.Spoil()
	wantE(t, "Commit", a.Commit(), api.ErrState)
	want("spoilt", 7, 0)
}
