package localtree

import (
	"fmt"
	"maps"
	"math/rand/v2"
	"testing"

	"aquifer/api"
	"aquifer/sector"
	"aquifer/table"
)

// stored tells a disk with a tree, all in its place.
func stored(t *testing.T) (*sector.Disk, *table.Store, plain) {
	t.Helper()
	d := aDisk(t, madeLog+8*120)
	s := opened(t, d)
	b := paired(t, s, plain{})
	b.all(
		mkdir("a"), mkdir("a/b"), create("a/f.x", textOf(100), 3), create("a/b/f.x", "", 4), create("a/b/g.x", textOf(300), 5),
		place("a/q/r/s.x", 8, 3), create("a.x", "ax", 1), mark("a.x", 9), mkdir("z"), place("p.x", 5, 70),
	)
	p := b.commit()
	wantE(t, "Checkpoint", s.Checkpoint(), api.OK)
	return d, s, p
}

// changed does to a store whatever may be done in one transaction.
func changed(t *testing.T, s *table.Store, p plain) *pair {
	t.Helper()
	b := paired(t, s, p)
	return b.all(
		rename("a", "z/a"), write("z/a/f.x", textOf(90)), remove("z/a/b/g.x"), empty("a.x"), fill("p.x", b.put(textOf(70))),
		place("new/p.x", 4, 4), mkdir("m"), create("m/c.x", "c", 7), touch("p.x", 8), place("z/a/b/f.x", 6, 6),
	)
}

// choices tells what may be kept: nothing, all, any.
func choices(row *rand.Rand, pending int) [][]bool {
	all, any := make([]bool, pending), make([]bool, pending)
	for i := range pending {
		all[i], any[i] = true, row.IntN(2) == 0
	}
	return [][]bool{nil, all, any}
}

// The power goes at each write within a Commit, whatever is kept: the tree is as ahead of it, or as behind it, and goes on from there.
func TestPowerGoesInCommit(t *testing.T) {
	row := fixedRow(3)
	seen := map[bool]int{}
	for deeds := 0; deeds < 1000; deeds++ {
		d, s, p := stored(t)
		b := changed(t, s, p)
		wantE(t, "Arm", d.Arm(deeds), api.OK)
		if b.a.Commit() == api.OK {
			break
		}
		for _, keep := range choices(row, d.Pending()) {
			seen[lose(t, deeds, keep)]++
		}
	}
	if seen[false] == 0 || seen[true] == 0 {
		t.Errorf("done or not: %v", seen)
	}
}

// lose lets the power go at a deed of a Commit, and tells whether all was done.
func lose(t *testing.T, deeds int, keep []bool) bool {
	t.Helper()
	what := fmt.Sprint("behind ", deeds, " deeds")
	d, s, p := stored(t)
	b := changed(t, s, p)
	wantE(t, "Arm", d.Arm(deeds), api.OK)
	wantE(t, what, b.a.Commit(), api.ErrDown)
	wantE(t, "On", d.On(keep), api.OK)
	s = opened(t, d)
	c := paired(t, s, p)
	_, e := Stat(c.a, "new/p.x")
	if e == api.OK {
		c.p = b.p.copied()
	}
	c.want(what)
	c.all(mkdir("more"), create("more/f.x", textOf(65), 1))
	c = paired(t, s, c.commit())
	c.want(what + ", gone on")
	return e == api.OK
}

// P18.6: the chunks that a transaction left without committing are nowhere, and the numbers are given again.
func TestAbortedContents(t *testing.T) {
	_, s, p := stored(t)
	b := changed(t, s, p)
	was := b.p.copied()
	b.a.Abort()
	b = paired(t, s, p)
	b.want("aborted")
	b.a.Abort()
	b = changed(t, s, p)
	b.want("done again")
	if !maps.Equal(b.p.nodes, was.nodes) || b.p.last != was.last {
		t.Error("it is not the same again")
	}
}
