package btree

import (
	"fmt"
	"maps"
	"math"
	"math/rand/v2"
	"testing"

	"aquifer/api"
	"aquifer/pagedb"
	"aquifer/sector"
)

// keeps tells choices of what is kept of some pending writes: none, all, some, and one of: one alone, all but one, a beginning.
func keeps(row *rand.Rand, pending int) [][]bool {
	all, some, other := make([]bool, pending), make([]bool, pending), make([]bool, pending)
	at, kind := row.IntN(pending+1), row.IntN(3)
	for i := range pending {
		all[i], some[i] = true, row.IntN(2) == 0
		other[i] = kind == 0 && i == at || kind == 1 && i != at || kind == 2 && i < at
	}
	return [][]bool{nil, all, some, other}
}

const powerLog, powerCount = 900, 60

// changed does to a tree what makes nodes split and join, and chains come and go.
func changed(b pair) {
	b.t.Helper()
	for i := range 24 {
		key := numbered(i*2, 139+i%2)
		switch i % 4 {
		case 0, 1:
			b.drop(key)
		case 2:
			b.put(key, textOf(i*30))
		}
	}
	for i := range 5 {
		b.put(numbered(i*8+1, 140), textOf(i*4))
	}
}

// story tells a disk with a database whose tree is stored, the tree as it is and as it will be, and the act that is to be done to it.
func story(t *testing.T, logged bool) (d *sector.Disk, ahead, behind map[string]string, x *Tree, act func() api.Errno) {
	t.Helper()
	d, db, has := stored(t, powerLog, powerCount)
	if logged {
		b := pair{t, Of(begun(t, db), 0), has}
		b.put("x", textOf(600))
		b.drop(numbered(0, 139))
		wantE(t, "Commit", b.x.tx.Commit(), api.OK)
	}
	a := begun(t, db)
	b := pair{t, Of(a, 0), maps.Clone(has)}
	changed(b)
	b.want("changed")
	return d, has, b.has, b.x, a.Commit
}

// P12.5: the power goes at each place within a commit, whatever is kept: the tree is as it was, or as it was to be; and behind that it is a tree like any.
func TestPowerGoes(t *testing.T) {
	row := fixedRow(12)
	for _, logged := range []bool{false, true} {
		seen := map[string]int{}
		for goes := 0; ; goes++ {
			d, _, _, _, act := story(t, logged)
			wantE(t, "Arm", d.Arm(goes), api.OK)
			if act() == api.OK {
				break
			}
			for _, keep := range keeps(row, d.Pending()) {
				seen[lose(t, fmt.Sprint("logged ", logged, ", behind ", goes), logged, goes, keep)]++
			}
		}
		if seen["ahead"] == 0 || seen["behind"] == 0 {
			t.Errorf("logged %v: %v", logged, seen)
		}
	}
}

// lose lets the power go at a place, and tells whether the tree is as ahead of the commit or behind it.
func lose(t *testing.T, what string, logged bool, goes int, keep []bool) string {
	t.Helper()
	d, ahead, behind, x, act := story(t, logged)
	wantE(t, "Arm", d.Arm(goes), api.OK)
	wantE(t, what, act(), api.ErrDown)
	wantDown(t, what+", without power", x)
	wantE(t, "On", d.On(keep), api.OK)
	wantDown(t, what+", with power again", x)
	wantDown(t, what+", an empty one", Of(x.tx, 3))
	db := opened(t, d, powerLog)
	a := begun(t, db)
	p, isTree := plainRead(a, 0)
	is, told := "ahead", ahead
	if isTree && maps.Equal(p.has, behind) {
		is, told = "behind", behind
	}
	b := pair{t, Of(a, 0), told}
	b.want(what)
	wantGets(t, what, b.x, b.has, "a", "z")
	wantAllPages(t, a, len(p.pages))
	b.put("more", textOf(700))
	b.drop(numbered(4, 139))
	wantE(t, what+": Commit", a.Commit(), api.OK)
	wantTree(t, what+", and more", begun(t, opened(t, d, powerLog)), 0, b.has)
	return is
}

// wantDown fails, if a tree whose database is lost tells anything but ErrDown, where key and value may be.
func wantDown(t *testing.T, what string, x *Tree) {
	t.Helper()
	for _, key := range []string{"a", numbered(2, 139), textOf(140)} {
		wantRefused(t, what, x, key, "x", api.ErrDown)
		wantE(t, what, x.Put(key, textOf(1<<14)), api.ErrDown)
		wantE(t, what, x.Put(key, textOf(1<<14+1)), api.ErrLong)
	}
	wantRefused(t, what, x, "", "x", api.ErrArg)
	wantE(t, what, x.Put("", textOf(1<<14+1)), api.ErrArg)
	wantRefused(t, what, x, textOf(141), "x", api.ErrLong)
	wantUntold(t, what, x, api.ErrDown)
}

// P12.5: the power goes within the Open behind a loss of power, and within a Checkpoint.
func TestPowerGoesAgain(t *testing.T) {
	row := fixedRow(13)
	d, _, behind, _, act := story(t, true)
	wantE(t, "Commit", act(), api.OK)
	image := make([]string, d.Size())
	for i := range image {
		image[i], _ = d.Read(i)
	}
	for goes := 0; ; goes += 1 + row.IntN(40) {
		d := aDisk(t, len(image))
		for i, s := range image {
			wantE(t, "the disk's Write", d.Write(i, s), api.OK)
		}
		wantE(t, "Flush", d.Flush(), api.OK)
		wantE(t, "Arm", d.Arm(goes), api.OK)
		if _, e := pagedb.Open(d, powerLog); e == api.OK {
			break
		}
		all := keeps(row, d.Pending())
		wantE(t, "On", d.On(all[row.IntN(len(all))]), api.OK)
		wantTree(t, goes, begun(t, opened(t, d, powerLog)), 0, behind)
	}
}

// P12.2: a disk without power, whose database does not know it yet.
func TestDiskOff(t *testing.T) {
	d, db, has := stored(t, powerLog, powerCount)
	a := begun(t, db)
	x := Of(a, 0)
	d.Off()
	for key := range has {
		wantRefused(t, "off", x, key, "x", api.ErrDown)
	}
	h, e := x.Height()
	p, f := x.Pages()
	if h != 0 || p != 0 || e != api.ErrDown || f != api.ErrDown {
		t.Errorf("Height %d, %d, Pages %d, %d", h, e, p, f)
	}
	wantE(t, "Check", x.Check(), api.ErrDown)
	if _, e := x.Node(x.Root()); e != api.ErrDown {
		t.Errorf("Node: %d", e)
	}
	if _, e := x.Value(api.Cell{Key: "a", Over: 1, Len: math.MaxInt}); e != api.ErrDown {
		t.Errorf("Value: %d", e)
	}
	wantE(t, "On", d.On(nil), api.OK)
	wantTree(t, "on again", begun(t, opened(t, d, powerLog)), 0, has)
}

// P12.5: commit behind commit, with the power going now and then: what was committed is there.
func TestPowerGoesNowAndThen(t *testing.T) {
	for seed := range uint64(6) {
		row := fixedRow(40 + seed)
		const log, count = 700, 300
		d := aDisk(t, log+8*count)
		db := opened(t, d, log)
		has := map[string]string{}
		for range 60 {
			a := begun(t, db)
			b := pair{t, Of(a, 0), maps.Clone(has)}
			for range 1 + row.IntN(12) {
				key := numbered(row.IntN(50), 5+row.IntN(3)*60)
				if row.IntN(5) < 2 {
					b.drop(key)
				} else {
					b.put(key, textOf(anyLength(row.IntN(1<<20))))
				}
			}
			if row.IntN(3) == 0 {
				wantE(t, "Arm", d.Arm(row.IntN(120)), api.OK)
			}
			if e := a.Commit(); e == api.OK {
				has = b.has
				if d.Arm(-1); row.IntN(4) > 0 {
					continue
				}
			}
			d.Off()
			all := keeps(row, d.Pending())
			wantE(t, "On", d.On(all[row.IntN(len(all))]), api.OK)
			db = opened(t, d, log)
			a = begun(t, db)
			if p, isTree := plainRead(a, 0); isTree && maps.Equal(p.has, b.has) {
				has = b.has
			}
			wantTree(t, seed, a, 0, has)
			wantGets(t, seed, Of(a, 0), has, "a")
			a.Abort()
		}
	}
}
