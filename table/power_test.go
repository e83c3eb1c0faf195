package table

import (
	"fmt"
	"math/rand/v2"
	"testing"

	"aquifer/api"
	"aquifer/sector"
)

// choices tells what may be kept of some pending writes: all there is to choose of few; of many none, all, some, one, all but one, a beginning.
func choices(row *rand.Rand, pending int) [][]bool {
	var all [][]bool
	if pending <= 3 {
		for set := range 1 << pending {
			all = append(all, chosen(pending, func(i int) bool { return set>>i&1 == 1 }))
		}
		return all
	}
	at := row.IntN(pending)
	return [][]bool{
		nil,
		chosen(pending, func(i int) bool { return true }),
		chosen(pending, func(i int) bool { return row.IntN(2) == 0 }),
		chosen(pending, func(i int) bool { return i == at }),
		chosen(pending, func(i int) bool { return i != at }),
		chosen(pending, func(i int) bool { return i < at }),
	}
}

func chosen(pending int, keep func(i int) bool) []bool {
	l := make([]bool, pending)
	for i := range l {
		l[i] = keep(i)
	}
	return l
}

const powerLog, powerCount = 120, 40

// stored tells a disk with rows in three tables, most of them at their places, and some in the log: with room for the next transaction there, or without.
func stored(t *testing.T, crowded bool) (*sector.Disk, *Store, plain) {
	t.Helper()
	d := aDisk(t, powerLog+8*powerCount)
	s := opened(t, d, powerLog)
	var has plain
	commits := func(do func(b *pair)) {
		b := paired(t, s, has)
		do(b)
		has = b.commit()
	}
	commits(func(b *pair) {
		for i := range 12 {
			b.put(i%3, key("k", i), rec(i, textOf(i*i)))
		}
		b.put(1, key("big"), recOf(700))
	})
	wantE(t, "Checkpoint", s.Checkpoint(), api.OK)
	commits(func(b *pair) { b.put(1, key("logged"), rec("x")) })
	if crowded {
		commits(func(b *pair) {
			b.put(1, key("k", 0), rec("x"))
			b.put(2, key("logged"), recOf(1200))
		})
		commits(func(b *pair) { b.drop(2, key("logged")) })
	}
	return d, s, has
}

// changed does to a store what a transaction may do, and tells both as they are to be behind Commit.
func changed(t *testing.T, s *Store, has plain) *pair {
	t.Helper()
	b := paired(t, s, has)
	b.drop(1, key("big"))
	b.put(2, key("big"), recOf(1000))
	b.put(0, key("k", 3), rec("another one"))
	b.drop(1, key("k", 4))
	b.put(7, nil, rec(1))
	return b
}

// P14.3, P14.4: the power goes at each write within a Commit, whatever is kept: the store is as ahead of it, or as behind it, and goes on from there.
func TestPowerGoesInCommit(t *testing.T) {
	row := fixedRow(1)
	for _, crowded := range []bool{false, true} {
		seen := map[string]int{}
		deeds := 0
		for ; deeds < 1000; deeds++ {
			d, s, has := stored(t, crowded)
			b := changed(t, s, has)
			wantE(t, "Arm", d.Arm(deeds), api.OK)
			if b.a.Commit() == api.OK {
				break
			}
			for _, keep := range choices(row, d.Pending()) {
				seen[lose(t, crowded, deeds, keep)]++
			}
		}
		// One that is crowded writes pages to their places and resets the log first.
		if seen["ahead"] == 0 || seen["behind"] == 0 || crowded != (deeds > 100) {
			t.Errorf("crowded %v: %v, %d deeds", crowded, seen, deeds)
		}
	}
}

// lose lets the power go at a deed of a Commit, and tells whether the store is as ahead of it or behind it.
func lose(t *testing.T, crowded bool, deeds int, keep []bool) string {
	t.Helper()
	what := fmt.Sprint("crowded ", crowded, ", behind ", deeds, " deeds")
	d, s, ahead := stored(t, crowded)
	used, count := s.Pages()
	b := changed(t, s, ahead)
	wantE(t, "Arm", d.Arm(deeds), api.OK)
	wantE(t, what, b.a.Commit(), api.ErrDown)
	wantLost(t, what+", without power", s, b.a)
	wantE(t, "On", d.On(keep), api.OK)
	done := d.Done()
	wantLost(t, what+", with power again", s, b.a)
	wantPages(t, what, s, used, count)
	b.a.Abort()
	wantEnded(t, what, b.a)
	wantNoTxn(t, what, s, api.ErrDown)
	if d.Done() != done {
		t.Errorf("%s: a store that is lost has written", what)
	}
	return goesOn(t, what, d, ahead, b.has)
}

// wantLost fails, if a store that is lost, or a transaction of it, tells anything but ErrDown where nothing else is wrong.
func wantLost(t *testing.T, what string, s *Store, a *Txn) {
	t.Helper()
	for range 2 {
		for _, k := range [][]api.Part{nil, key("k"), key("k", 3), key("none")} {
			wantNothing(t, what, a, 1, k, api.ErrDown)
			wantNothing(t, what, a, -1, k, api.ErrArg)
			wantE(t, what+": Put of too much", a.Put(1, k, recOf(1<<14+1)), api.ErrLong)
			wantE(t, what+": Put of no record", a.Put(1, k, []api.Field{{}}), api.ErrArg)
		}
		wantNothing(t, what, a, 1, times(16, num(1)), api.ErrFull)
		wantE(t, what+": Commit", a.Commit(), api.ErrDown)
		wantNoTxn(t, what, s, api.ErrDown)
		wantE(t, what+": Checkpoint", s.Checkpoint(), api.ErrDown)
	}
}

// goesOn opens the store that a disk has anew, which must be as it was ahead, or as it was to be, and goes on from there.
func goesOn(t *testing.T, what string, d *sector.Disk, ahead, behind plain) string {
	t.Helper()
	s := opened(t, d, powerLog)
	b := paired(t, s, ahead)
	is := "ahead"
	if got, there, e := b.a.Get(7, nil); there && e == api.OK && sameRec(got, rec(1)) {
		b.has, is = behind, "behind"
	}
	b.want(what + ": " + is)
	b.put(1, key("more"), recOf(500))
	b.drop(0, key("k", 6))
	has := b.commit()
	wantStored(t, what+", gone on", d, powerLog, s, has)
	b = paired(t, opened(t, d, powerLog), has)
	b.want(what + ", gone on and opened anew")
	return is
}

// P14.4: the power goes between calls, whatever is kept: nothing of a transaction that has not committed is there.
func TestPowerGoesBetweenCalls(t *testing.T) {
	row := fixedRow(2)
	calls := []func(b *pair){
		func(b *pair) {},
		func(b *pair) { b.put(1, key("new"), recOf(900)) },
		func(b *pair) { b.drop(1, key("big")) },
		func(b *pair) { b.scan("Scan", 1, nil) },
		func(b *pair) { b.put(0, key("k", 3), nil) },
		func(b *pair) { b.get("Get", 2, key("k", 5)) },
		func(b *pair) {
			for i := range 12 {
				b.drop(i%3, key("k", i))
			}
		},
	}
	for n := range len(calls) + 1 {
		for _, crowded := range []bool{false, true} {
			for _, aborted := range []bool{false, true} {
				what := fmt.Sprint("behind ", n, " calls, crowded ", crowded, ", aborted ", aborted)
				d, s, has := stored(t, crowded)
				done := d.Done()
				b := paired(t, s, has)
				for _, call := range calls[:n] {
					call(b)
				}
				if aborted {
					b.a.Abort()
				}
				if d.Done() != done || d.Pending() != 0 {
					t.Errorf("%s: the disk was written", what)
				}
				wantE(t, "Off", d.Off(), api.OK)
				wantE(t, "On", d.On(chosen(d.Pending(), func(i int) bool { return row.IntN(2) == 0 })), api.OK)
				if is := goesOn(t, what, d, has, nil); is != "ahead" {
					t.Errorf("%s: it is as %s", what, is)
				}
			}
		}
	}
}

// P14.1, P14.4: the power goes at each write within a Checkpoint, whatever is kept: the store is as it was.
func TestPowerGoesInCheckpoint(t *testing.T) {
	row := fixedRow(3)
	for deeds := 0; deeds < 1000; deeds++ {
		d, s, _ := stored(t, true)
		wantE(t, "Arm", d.Arm(deeds), api.OK)
		if s.Checkpoint() == api.OK {
			if deeds < 20 {
				t.Errorf("a Checkpoint of %d deeds", deeds)
			}
			break
		}
		for _, keep := range choices(row, d.Pending()) {
			what := fmt.Sprint("behind ", deeds, " deeds")
			d, s, has := stored(t, true)
			wantE(t, "Arm", d.Arm(deeds), api.OK)
			wantE(t, what, s.Checkpoint(), api.ErrDown)
			wantNoTxn(t, what, s, api.ErrDown)
			wantE(t, "On", d.On(keep), api.OK)
			wantNoTxn(t, what, s, api.ErrDown)
			wantE(t, what, s.Checkpoint(), api.ErrDown)
			goesOn(t, what, d, has, nil)
		}
	}
}

// P14.1, P14.4: the power goes within Open, again and again: the one that is done tells the store as it was.
func TestPowerGoesInOpen(t *testing.T) {
	row := fixedRow(4)
	d, _, has := stored(t, true)
	all := image(t, d)
	for deeds := 0; deeds < 1000; deeds++ {
		d := diskOf(t, all)
		wantE(t, "Arm", d.Arm(deeds), api.OK)
		if _, e := Open(d, powerLog); e == api.OK {
			break
		}
		for range 2 {
			pending := choices(row, d.Pending())
			wantE(t, "On", d.On(pending[row.IntN(len(pending))]), api.OK)
			wantE(t, "Arm", d.Arm(row.IntN(deeds+1)), api.OK)
			if _, e := Open(d, powerLog); e == api.OK {
				d.Off()
				continue
			}
			refused(t, "without power", d, powerLog, api.ErrDown)
		}
		wantE(t, "On", d.On(nil), api.OK)
		goesOn(t, fmt.Sprint("behind ", deeds, " deeds"), d, has, nil)
	}
}

// P14.2: a disk without power of which the store does not know yet: what must be read of it is told by ErrDown, and the arguments' errors ahead of it.
func TestDiskWithoutPower(t *testing.T) {
	d, s, has := stored(t, false)
	wantE(t, "Checkpoint", s.Checkpoint(), api.OK)
	a := begun(t, s)
	wantE(t, "Off", d.Off(), api.OK)
	for _, r := range has {
		wantNothing(t, "off", a, r.table, r.key, api.ErrDown)
	}
	wantNothing(t, "off", a, -1, nil, api.ErrArg)
	wantNothing(t, "off", a, 1, make([]api.Part, 1), api.ErrArg)
	wantE(t, "off: Put of too much", a.Put(1, nil, recOf(1<<14+1)), api.ErrLong)
	wantE(t, "On", d.On(nil), api.OK)
	goesOn(t, "on again", d, has, nil)
}

// P14.4: transaction behind transaction, with the power going now and then: what was committed is there, whole.
func TestPowerGoesNowAndThen(t *testing.T) {
	for seed := range uint64(5) {
		row := fixedRow(20 + seed)
		const log, count = 300, 120
		d := aDisk(t, log+8*count)
		s := opened(t, d, log)
		var has plain
		for turn := range 40 {
			what := fmt.Sprint("seed ", seed, ", turn ", turn)
			b := paired(t, s, has)
			b.put(9, key("turn"), rec(turn))
			for range 1 + row.IntN(8) {
				table, k := row.IntN(3), key("k", row.IntN(12))
				if row.IntN(3) == 0 {
					b.drop(table, k)
				} else {
					b.put(table, k, recOf([]int{0, 5, 100, 400, 1500}[row.IntN(5)]))
				}
			}
			if row.IntN(2) == 0 {
				wantE(t, "Arm", d.Arm(row.IntN(90)), api.OK)
			}
			e := b.a.Commit()
			if e == api.OK {
				has = b.has
				if d.Arm(-1); row.IntN(3) > 0 {
					continue
				}
			}
			d.Off()
			pending := choices(row, d.Pending())
			wantE(t, "On", d.On(pending[row.IntN(len(pending))]), api.OK)
			s = opened(t, d, log)
			c := paired(t, s, has)
			if got, _, _ := c.a.Get(9, key("turn")); e != api.OK && sameRec(got, rec(turn)) {
				c.has = b.has
			}
			c.want(what)
			has = c.has
			c.a.Abort()
			wantStored(t, what, d, log, s, has)
		}
	}
}
