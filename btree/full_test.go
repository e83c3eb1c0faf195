package btree

import (
	"fmt"
	"maps"
	"slices"
	"testing"

	"aquifer/api"
	"aquifer/pagedb"
	"aquifer/sector"
)

// thereOf tells how many pages of a transaction are there.
func thereOf(a *pagedb.Tx) int {
	there := 0
	for id := 1; ; id++ {
		_, _, e := a.Read(id)
		switch e {
		case api.ErrArg:
			return there
		case api.OK:
			there++
		}
	}
}

// P12.2: a database with no page left: what is refused spoils the transaction, and nothing of it is there behind.
func TestFull(t *testing.T) {
	for count := 4; count <= 40; count++ {
		db := made(t, count)
		first := paired(t, begun(t, db), 0)
		first.put("a", "x")
		wantE(t, "Commit", first.x.tx.Commit(), api.OK)
		a := begun(t, db)
		b := pair{t, Of(a, 0), maps.Clone(first.has)}
		i := 0
		e := api.OK
		for ; e == api.OK; i++ {
			key, val := numbered(i*77%1000, 60), textOf(i%3*300)
			was := thereOf(a)
			if e = b.x.Put(key, val); e == api.OK {
				b.has[key] = val
			} else if thereOf(a) != was {
				t.Errorf("%d pages are there, before it there were %d", thereOf(a), was)
			}
		}
		what := fmt.Sprint("with ", count, " pages")
		wantE(t, what, e, api.ErrFull)
		b.want(what)
		wantGets(t, what, b.x, b.has, numbered((i-1)*77%1000, 60))
		b.drop("a")
		b.want(what + ", a deleted")
		wantE(t, what+": Put again", b.x.Put("a", textOf(1<<14)), api.ErrFull)
		b.want(what + ", refused again")
		wantE(t, what+": Commit", a.Commit(), api.ErrState)
		wantTree(t, what, begun(t, db), 0, first.has)
	}
}

// P12.2: as many pages as are left are enough for a value, and one less is not.
func TestJustEnough(t *testing.T) {
	for left := range 6 {
		for _, size := range []int{155, 156, 157, 495, 496, 497, 992, 993, 1488, 1489, 1984, 1985, 2480, 2481, 1 << 14} {
			b := paired(t, begun(t, made(t, 20)), 0)
			b.put("a", "x")
			for _, id := range pages(t, b.x.tx, 18)[:left] {
				wantE(t, "Free", b.x.tx.Free(id), api.OK)
			}
			needs := 0
			if 2+size > 157 {
				needs = (size + 495) / 496
			}
			what := fmt.Sprint(left, " pages left, ", size, " bytes")
			if e := b.x.Put("bb", textOf(size)); needs <= left {
				wantE(t, what, e, api.OK)
				b.has["bb"] = textOf(size)
				b.want(what)
				wantE(t, what+": Commit", b.x.tx.Commit(), api.OK)
			} else {
				wantE(t, what, e, api.ErrFull)
				b.want(what)
				wantE(t, what+": Commit", b.x.tx.Commit(), api.ErrState)
			}
		}
	}
}

// P12.2: what needs no page more is done where no page is left: other values in as many pages, smaller ones, and Delete of each key.
func TestDoneWhereNoPageIsLeft(t *testing.T) {
	for seed := range uint64(30) {
		row := fixedRow(500 + seed)
		db := made(t, 20+int(seed)*3)
		a := begun(t, db)
		b := paired(t, a, 0)
		for i := 0; ; i++ {
			key, val := numbered(row.IntN(1000), 5+row.IntN(130)), textOf(anyLength(row.IntN(1<<20)))
			was := imageOf(a)
			if e := b.x.Put(key, val); e != api.OK {
				wantE(t, "Put", e, api.ErrFull)
				if got := imageOf(a); got.roots != was.roots {
					t.Errorf("roots %v, were %v", got.roots, was.roots)
				}
				break
			}
			b.has[key] = val
		}
		// What is left of free pages is taken too.
		for {
			if _, e := a.Alloc(); e != api.OK {
				break
			}
		}
		b.want("full")
		keys := slices.Sorted(maps.Keys(b.has))
		for _, i := range row.Perm(len(keys)) {
			key := keys[i]
			val := b.has[key]
			b.put(key, textOf(len(val) + 1)[1:])
			if inCell := len(key)+len(val) <= 157; inCell && val != "" {
				b.put(key, val[:row.IntN(len(val))])
			} else if !inCell {
				b.put(key, val[:158-len(key)+row.IntN(len(key)+len(val)-157)])
			}
			b.want("put again")
			b.drop(key)
			b.want("deleted")
			// No page that came free is there for the next one.
			for {
				if _, e := a.Alloc(); e != api.OK {
					break
				}
			}
		}
		if p, _ := b.x.Pages(); p != 0 {
			t.Errorf("seed %d: %d pages", seed, p)
		}
	}
}

// P12.2: a tree is put into a database whose other pages are another tree's, which is as it was when that is refused.
func TestFullBesideAnother(t *testing.T) {
	db := made(t, 30)
	other := paired(t, begun(t, db), 1)
	for i := range 15 {
		other.put(numbered(i, 140), textOf(300))
	}
	wantE(t, "Commit", other.x.tx.Commit(), api.OK)
	a := begun(t, db)
	b := paired(t, a, 2)
	i := 0
	for ; b.x.Put(numbered(i, 140), textOf(17)) == api.OK; i++ {
		b.has[numbered(i, 140)] = textOf(17)
	}
	b.want("full")
	wantTree(t, "the other one", a, 1, other.has)
	wantE(t, "Commit", a.Commit(), api.ErrState)
	a = begun(t, db)
	wantTree(t, "the other one", a, 1, other.has)
	wantTree(t, "the refused one", a, 2, map[string]string{})
}

// stored tells a disk with a database whose tree has some nodes and chains, all at their places.
func stored(t *testing.T, log, count int) (*sector.Disk, *pagedb.DB, map[string]string) {
	t.Helper()
	d := aDisk(t, log+8*count)
	db := opened(t, d, log)
	b := paired(t, begun(t, db), 0)
	for i := range 24 {
		b.put(numbered(i*2, 139+i%2), textOf(i%5*4+i%12/11*700))
	}
	if h, _ := b.x.Height(); h < 3 {
		t.Fatalf("height %d", h)
	}
	wantE(t, "Commit", b.x.tx.Commit(), api.OK)
	wantE(t, "Checkpoint", db.Checkpoint(), api.OK)
	return d, db, b.has
}

// P12.2, P12.3: a page that the disk has harmed: its error is told, and nothing is changed.
func TestHarmedPages(t *testing.T) {
	const log, count = 1100, 60
	_, db, _ := stored(t, log, count)
	for id := 1; id < db.High(); id++ {
		d, db, has := stored(t, log, count)
		s, _ := d.Read(log + 8*id)
		harmed := []byte(s)
		harmed[60] ^= 0x10
		wantE(t, "the disk's Write", d.Write(log+8*id, string(harmed)), api.OK)
		a := begun(t, db)
		x := Of(a, 0)
		what := fmt.Sprint("page ", id)
		h, e := x.Height()
		p, f := x.Pages()
		if h != 0 || p != 0 || e != api.ErrSum || f != api.ErrSum {
			t.Errorf("%s: Height %d, %d, Pages %d, %d", what, h, e, p, f)
		}
		wantE(t, what+": Check", x.Check(), api.ErrSum)
		n, e := x.Node(id)
		if !isNothing(n) || e != api.ErrSum {
			t.Errorf("%s: Node: %v, %d", what, n, e)
		}
		if s, e := x.Value(api.Cell{Key: "a", Over: id, Len: 500}); s != "" || e != api.ErrSum {
			t.Errorf("%s: Value: %q, %d", what, s, e)
		}
		errors := 0
		for key, val := range has {
			was := imageOf(a)
			got, there, e := x.Get(key)
			if e == api.OK && (got != val || !there) || e != api.OK && (got != "" || there || e != api.ErrSum) {
				t.Errorf("%s: Get: %.40q, %v, %d", what, got, there, e)
			}
			for _, size := range []int{0, 17, 1000} {
				if e := x.Put(key, textOf(size)); e != api.OK {
					wantE(t, what+": Put", e, api.ErrSum)
					wantSame(t, what, a, was)
					errors++
				}
				a.Abort()
				a = begun(t, db)
				x = Of(a, 0)
				was = imageOf(a)
			}
			if there, e := x.Delete(key); e != api.OK {
				wantE(t, what+": Delete", e, api.ErrSum)
				wantSame(t, what, a, was)
				errors++
			} else if !there {
				t.Errorf("%s: Delete: it is not there", what)
			}
			a.Abort()
			a = begun(t, db)
			x = Of(a, 0)
		}
		if errors == 0 {
			t.Errorf("%s: nothing was refused", what)
		}
	}
}
