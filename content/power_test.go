package content

import (
	"fmt"
	"math/rand/v2"
	"testing"

	"aquifer/api"
	"aquifer/sector"
	"aquifer/table"
)

// stored tells a disk with some contents, all in their places.
func stored(t *testing.T) (*sector.Disk, *table.Store, plain) {
	t.Helper()
	d := aDisk(t, madeLog+8*120)
	s := opened(t, d)
	b := paired(t, s, plain{})
	for _, n := range []int{100, 0, 64, 300} {
		b.put(textOf(n))
	}
	b.set(2, 9, "nine")
	p := b.commit()
	wantE(t, "Checkpoint", s.Checkpoint(), api.OK)
	return d, s, p
}

// changed does to a store whatever may be done in one transaction.
func changed(t *testing.T, s *table.Store, p plain) *pair {
	t.Helper()
	b := paired(t, s, p)
	b.drop(1)
	b.new()
	b.set(5, 3, textOf(40))
	b.put(textOf(140))
	b.set(4, 1, "one")
	return b
}

// choices tells what may be kept: nothing, all, any.
func choices(row *rand.Rand, pending int) [][]bool {
	all, any := make([]bool, pending), make([]bool, pending)
	for i := range pending {
		all[i], any[i] = true, row.IntN(2) == 0
	}
	return [][]bool{nil, all, any}
}

// P16.4: what was committed is told by another transaction, of another store on that disk too; what was aborted is not, and its numbers are given again.
func TestCommittedAndAborted(t *testing.T) {
	d, s, p := stored(t)
	b := changed(t, s, p)
	b.want("changed")
	b.a.Abort()
	b = paired(t, s, p)
	b.want("aborted")
	b.a.Abort()
	b = paired(t, opened(t, copyOf(t, d)), p)
	b.want("aborted, opened anew")
	b = changed(t, s, p)
	p = b.commit()
	b = paired(t, s, p)
	b.want("committed")
	b = paired(t, opened(t, copyOf(t, d)), p)
	b.want("committed, opened anew")
	b.new()
	b.want("gone on")
}

// P16.4: the power goes at each write within a Commit, whatever is kept: all contents are as ahead of it, or as behind it, and go on from there.
func TestPowerGoesInCommit(t *testing.T) {
	row := fixedRow(3)
	seen := map[bool]int{}
	for deeds := 0; deeds < 1000; deeds++ {
		d, s, p := stored(t)
		b := changed(t, s, p)
		wantE(t, "Arm", d.Arm(deeds), api.OK)
		if b.a.Commit() == api.OK {
			break
		}
		for _, keep := range choices(row, d.Pending()) {
			seen[lose(t, deeds, keep)]++
		}
	}
	if seen[false] == 0 || seen[true] == 0 {
		t.Errorf("done or not: %v", seen)
	}
}

// lose lets the power go at a deed of a Commit, and tells whether all was done.
func lose(t *testing.T, deeds int, keep []bool) bool {
	t.Helper()
	what := fmt.Sprint("behind ", deeds, " deeds")
	d, s, p := stored(t)
	b := changed(t, s, p)
	wantE(t, "Arm", d.Arm(deeds), api.OK)
	wantE(t, what, b.a.Commit(), api.ErrDown)
	wantNothing(t, what, b.a, api.ErrDown)
	wantE(t, "On", d.On(keep), api.OK)
	s = opened(t, d)
	c := paired(t, s, p)
	last, _ := Last(c.a)
	if last > p.last {
		c.p = b.p
	}
	c.want(what)
	c.put("more")
	p = c.commit()
	c = paired(t, opened(t, d), p)
	c.want(what + ", gone on")
	return last >= b.p.last
}

// P16.4: a disk without power: ErrDown of all calls, ahead of the arguments' own errors; what was done in the transaction is lost.
func TestWithoutPower(t *testing.T) {
	d, s, p := stored(t)
	a := begun(t, s)
	wantE(t, "Off", d.Off(), api.OK)
	wantNothing(t, "without power", a, api.ErrDown)
	wantE(t, "On", d.On(nil), api.OK)
	s = opened(t, d)
	b := changed(t, s, p)
	wantE(t, "Off", d.Off(), api.OK)
	wantE(t, "Commit", b.a.Commit(), api.ErrDown)
	wantNothing(t, "lost", b.a, api.ErrDown)
	wantE(t, "On", d.On(nil), api.OK)
	b = paired(t, opened(t, d), p)
	b.want("lost, opened anew")
}
