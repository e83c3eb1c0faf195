package pagedb

import (
	"fmt"
	"math"
	"slices"
	"strings"
	"testing"
	"unsafe"

	"aquifer/api"
)

// numbers tells numbers that no page has, and those around a high mark.
func numbers(high int) []int {
	return []int{math.MinInt, -1 << 32, -2, -1, 0, 1, 2, high - 1, high, high + 1, 1<<31 - 1, 1 << 31, 1<<32 + 1, math.MaxInt}
}

// P10.3: Read, Write and Free of a number that no page has, of one that is free, and of one that is there.
func TestNumbers(t *testing.T) {
	d, x := made(t, 60, 9)
	a := begun(t, x)
	for _, id := range numbers(1) {
		wantE(t, "fresh: Read", errorOf(a.Read(id)), api.ErrArg)
		wantE(t, "fresh: Write", a.Write(id, 1, ""), api.ErrArg)
		wantE(t, "fresh: Free", a.Free(id), api.ErrArg)
	}
	a.Abort()
	p := fresh(9)
	b := paired(t, x, p)
	for range 5 {
		b.alloc()
	}
	b.drop(3)
	p = b.commit()
	for _, how := range []string{"in the log", "at its place", "opened anew"} {
		switch how {
		case "at its place":
			wantE(t, "Checkpoint", x.Checkpoint(), api.OK)
		case "opened anew":
			x = opened(t, d, 60)
		}
		for _, id := range append(numbers(6), 3, 4) {
			what := fmt.Sprint(how, ": ", id)
			want := p.begin().refuses(id)
			b := paired(t, x, p)
			wantE(t, what+": Read", errorOf(b.a.Read(id)), want)
			b.write(id, 99, "new")
			wantSees(t, what+": written", b.a, b.p)
			b.a.Abort()
			b = paired(t, x, p)
			b.drop(id)
			wantSees(t, what+": freed", b.a, b.p)
			b.drop(id)
			b.write(id, 1, "")
			wantE(t, what+": Read behind Free", errorOf(b.a.Read(id)), b.p.refuses(id))
			wantSees(t, what+": freed and refused", b.a, b.p)
			b.a.Abort()
		}
		wantIs(t, how, x, p)
	}
}

// P10.3: kinds are from 1 to 254, bodies of at most MaxBody bytes; of several faults the first one is told, and nothing is written.
func TestWrite(t *testing.T) {
	d, x, p := ofPages(t, 60, 9, 4)
	b := paired(t, x, p)
	b.drop(2)
	p = b.commit()
	kinds := []int{math.MinInt, -255, -1, 0, 1, 2, 128, 253, 254, 255, 256, 257, 1<<32 + 1, math.MaxInt}
	lengths := []int{0, 1, 255, 256, 499, 500, 501, 502, 512, 70000}
	for _, id := range append(numbers(5), 2, 3) {
		for _, kind := range kinds {
			for _, n := range lengths {
				b := paired(t, x, p)
				b.write(id, kind, textOf(n))
				wantSees(t, fmt.Sprintf("Write(%d, %d, of %d bytes)", id, kind, n), b.a, b.p)
				b.a.Abort()
			}
		}
	}
	for _, n := range lengths[:6] {
		b := paired(t, x, p)
		b.write(1, 1, textOf(n))
		b.write(3, 254, strings.Repeat("\x00", n))
		b.write(4, 77, "over")
		b.write(4, 78, textOf(n))
		p = b.commit()
		wantIs(t, "written", x, p)
		x = opened(t, d, 60)
		wantIs(t, "opened anew", x, p)
	}
}

// P10.3: what is handed in may be changed later: nothing of it is kept; and what was handed out stays as it was.
func TestNothingIsShared(t *testing.T) {
	d, x, p := ofPages(t, 60, 9, 2)
	bytes := []byte(textOf(300))
	b := paired(t, x, p)
	wantE(t, "Write", b.a.Write(1, 9, unsafe.String(&bytes[0], len(bytes))), api.OK)
	b.p.write(1, 9, textOf(300))
	_, before, _ := b.a.Read(1)
	clear(bytes)
	wantSees(t, "changed behind Write", b.a, b.p)
	p = b.commit()
	wantIs(t, "committed", x, p)
	b = paired(t, x, p)
	b.write(1, 10, "other")
	b.commit()
	wantE(t, "Checkpoint", x.Checkpoint(), api.OK)
	put(t, d, 60+8, "over", "over", "over")
	if before != textOf(300) {
		t.Error("what Read told was changed")
	}
}

// P10.3: pages that came free are allocated, the last one first; then those at the high mark, up to Count.
func TestAlloc(t *testing.T) {
	const log, count, n = 80, 9, 6
	d, x, p := ofPages(t, log, count, n)
	for _, id := range []int{4, 1} { // over two transactions
		b := paired(t, x, p)
		b.drop(id)
		p = b.commit()
	}
	b := paired(t, x, p)
	for _, id := range []int{6, 2} { // and two in one
		b.drop(id)
	}
	p = b.commit()
	for _, how := range []string{"in the log", "at their places", "opened anew"} {
		switch how {
		case "at their places":
			wantE(t, "Checkpoint", x.Checkpoint(), api.OK)
		case "opened anew":
			x = opened(t, d, log)
		}
		b := paired(t, x, p)
		var ids []int
		for range 6 {
			id := b.alloc()
			ids = append(ids, id)
			wantSees(t, how, b.a, b.p)
			if kind, body, e := b.a.Read(id); kind != 1 || body != "" || e != api.OK {
				t.Errorf("%s: allocated: %d, %q, error %d", how, kind, body, e)
			}
		}
		if !slices.Equal(ids, []int{2, 6, 1, 4, 7, 8}) {
			t.Errorf("%s: allocated %v", how, ids)
		}
		for range 3 {
			b.alloc() // ErrFull: the high mark is Count
			wantSees(t, how+": full", b.a, b.p)
		}
		b.drop(5)
		b.alloc()
		b.alloc()
		wantSees(t, how+": full again", b.a, b.p)
		b.a.Abort()
		wantIs(t, how, x, p)
	}
}

// P10.3: a page that the same transaction freed is allocated again, with nothing of what it had.
func TestAllocOfWhatWasFreedJustNow(t *testing.T) {
	const log, count = 80, 9
	d, x, p := ofPages(t, log, count, 4)
	b := paired(t, x, p)
	b.drop(3)
	b.drop(1)
	if id := b.alloc(); id != 1 {
		t.Errorf("allocated %d", id)
	}
	b.drop(4)
	b.drop(1)
	if one, two := b.alloc(), b.alloc(); one != 1 || two != 4 {
		t.Errorf("allocated %d, %d", one, two)
	}
	b.write(4, 50, "four")
	fifth := b.alloc() // 3
	sixth := b.alloc() // the high mark
	b.drop(sixth)
	if fifth != 3 || sixth != 5 || b.alloc() != 5 {
		t.Errorf("allocated %d, %d", fifth, sixth)
	}
	b.drop(5)
	wantSees(t, "open", b.a, b.p)
	p = b.commit()
	wantIs(t, "committed", x, p)
	x = opened(t, d, log)
	wantIs(t, "opened anew", x, p)
	if x.High() != 6 || x.Free() != 1 {
		t.Errorf("high mark %d, free %d", x.High(), x.Free())
	}
}

// P10.4: roots, their places and numbers.
func TestRoots(t *testing.T) {
	d, x := made(t, 60, 9)
	p := fresh(9)
	places := []int{math.MinInt, -5, -4, -1, 0, 1, 2, 3, 4, 5, 1 << 32, math.MaxInt}
	values := []int{math.MinInt, -1 << 31, -1, 0, 1, 255, 256, 1 << 16, 1<<24 - 1, 1<<31 - 1, 1 << 31, 1<<32 - 1, 1 << 32, 1<<32 + 1, math.MaxInt}
	for _, i := range places {
		for _, n := range values {
			b := paired(t, x, p)
			b.setRoot(i, n)
			wantSees(t, fmt.Sprintf("SetRoot(%d, %d)", i, n), b.a, b.p)
			for _, k := range places {
				want := 0
				if k >= 0 && k < 4 {
					want = b.p.roots[k]
				}
				if got := b.a.Root(k); got != want {
					t.Errorf("Root(%d) is %d, want %d", k, got, want)
				}
			}
			p = b.commit()
			wantIs(t, "committed", x, p)
		}
		x = opened(t, d, 60)
		wantIs(t, "opened anew", x, p)
	}
	if p.roots != [4]int{1<<31 - 1, 1<<31 - 1, 1<<31 - 1, 1<<31 - 1} {
		t.Errorf("roots %v", p.roots)
	}
}

// P10.4: each page that is changed counts once, and one more for all that changes what is free, the high mark, or a root.
func TestChanged(t *testing.T) {
	d, x, p := ofPages(t, 200, 12, 6)
	b := paired(t, x, p)
	want := func(what string, n int) {
		t.Helper()
		if got := b.a.Changed(); got != n || len(b.p.touched) != n {
			t.Errorf("%s: changed %d, want %d", what, got, n)
		}
	}
	want("nothing", 0)
	b.a.Read(1)
	b.a.Root(1)
	want("looked at", 0)
	b.write(1, 0, "")
	b.write(0, 1, "")
	b.write(1, 1, textOf(501))
	b.drop(0)
	b.drop(7)
	b.setRoot(4, 0)
	b.setRoot(0, -1)
	want("refused", 0)
	b.write(1, 10, textOf(20)) // as it was
	want("written", 1)
	b.write(1, 11, "a")
	want("written again", 1)
	b.write(2, 11, "a")
	want("two", 2)
	b.a.Spoil()
	want("spoilt", 2)
	b.a.Abort()
	if b.a.Changed() != 0 {
		t.Error("ended")
	}

	b = paired(t, x, p)
	b.setRoot(0, 0) // as it was
	want("a root", 1)
	b.setRoot(3, 5)
	want("two roots", 1)
	b.alloc()
	want("allocated", 2)
	b.write(7, 5, "a")
	want("written", 2)
	b.drop(7)
	want("freed", 2)
	b.alloc()
	want("allocated again", 2)
	b.drop(3)
	want("another one", 3)
	b.write(4, 5, "a")
	want("one that was there", 4)
	b.drop(4)
	want("that is freed", 4)
	p = b.commit()
	if b.a.Changed() != 0 {
		t.Error("ended")
	}

	for what, do := range map[string]func(pair){
		"alloc": func(b pair) { b.alloc() },
		"free":  func(b pair) { b.drop(1) },
	} {
		b = paired(t, x, p)
		do(b)
		want(what, 2)
		b.a.Abort()
	}
	wantIs(t, "committed", opened(t, d, 200), p)
}

// P10.5: what a transaction changes may not be more than a log without records has room for, and a record may have.
func TestCommitFull(t *testing.T) {
	for _, c := range []struct{ log, most int }{
		{2, 0}, {3, 0}, {9, 0}, {10, 1}, {17, 1}, {18, 2}, {25, 2}, {26, 3}, {105, 12}, {106, 13}, {113, 13}, {1017, 125}, {1018, 126}, {1025, 126}, {1026, 127}, {1200, 127},
	} {
		const count = 140
		for k := max(c.most-1, 0); k <= c.most+2; k++ {
			d, x := made(t, c.log, count)
			b := paired(t, x, fresh(count))
			if k > 0 {
				b.setRoot(0, 7)
			}
			for range k - 1 {
				b.alloc()
			}
			if b.a.Changed() != k {
				t.Fatalf("changed %d", b.a.Changed())
			}
			want, p := api.OK, b.p.plain
			if k > c.most {
				want, p = api.ErrFull, fresh(count)
			}
			what := fmt.Sprintf("%d pages, a log of %d", k, c.log)
			wantE(t, what, b.a.Commit(), want)
			if want != b.p.commit(c.log) {
				t.Errorf("%s: the plain one has it otherwise", what)
			}
			if (k == 0 || want != api.OK) != (d.Done() == 0) {
				t.Errorf("%s: %d deeds", what, d.Done())
			}
			wantNothing(t, what, b.a)
			wantIs(t, what, x, p)
			wantIs(t, what+", opened anew", opened(t, d, c.log), p)
		}
	}
}

// P10.5: a transaction that has too much ends; a lesser one goes on from what was there.
func TestBehindFull(t *testing.T) {
	d, x, p := ofPages(t, 30, 9, 5)
	for range 3 {
		b := paired(t, x, p)
		for id := 1; id <= 4; id++ {
			b.write(id, 99, "new")
		}
		wantE(t, "Commit", b.a.Commit(), api.ErrFull)
		wantIs(t, "full", x, p)
		b = paired(t, x, p)
		b.write(1, 98, "less")
		b.drop(b.alloc())
		p = b.commit()
		wantIs(t, "less", x, p)
		wantIs(t, "less, opened anew", opened(t, d, 30), p)
		x = opened(t, d, 30)
	}
	d, x = made(t, 17, 9)
	b := paired(t, x, fresh(9))
	b.setRoot(1, 5)
	p = b.commit()
	done := d.Done()
	b = paired(t, x, p)
	b.alloc()
	wantE(t, "a little too much", b.a.Commit(), api.ErrFull)
	if d.Done() != done {
		t.Error("one that is refused has written")
	}
	wantIs(t, "a little too much", x, p)
}

// P10.5: a transaction that changed nothing writes nothing, whatever the log has.
func TestCommitOfNothing(t *testing.T) {
	d, x, p := ofPages(t, 40, 9, 3)
	b := paired(t, x, p)
	b.setRoot(0, 1)
	p = b.commit()
	for range 3 {
		done := d.Done()
		wantE(t, "Arm", d.Arm(0), api.OK)
		a := begun(t, x)
		a.Read(1)
		wantE(t, "of nothing", a.Commit(), api.OK)
		wantNothing(t, "of nothing", a)
		if d.Done() != done || d.Down() {
			t.Error("it has written")
		}
		wantE(t, "Arm", d.Arm(-1), api.OK)
		wantIs(t, "of nothing", x, p)
	}
}

// P10.5: Spoil lets Commit refuse, whatever was changed, and ahead of all else that it may refuse; nothing is written.
func TestSpoil(t *testing.T) {
	d, x, p := ofPages(t, 30, 9, 6)
	done := d.Done()
	for n := range 6 {
		for _, late := range []bool{false, true} {
			b := paired(t, x, p)
			if !late {
				b.a.Spoil()
			}
			for id := 1; id <= n; id++ {
				b.write(id, 99, "new")
			}
			if late {
				b.a.Spoil()
				b.a.Spoil()
			}
			b.p.spoilt = true
			wantSees(t, "spoilt", b.a, b.p)
			wantE(t, "Commit", b.a.Commit(), b.p.commit(30))
			wantNothing(t, "spoilt", b.a)
			wantIs(t, "spoilt", x, p)
		}
	}
	b := paired(t, x, p)
	b.a.Spoil()
	b.a.Abort()
	if d.Done() != done {
		t.Error("one that was spoilt has written")
	}
	b = paired(t, x, p)
	b.drop(1)
	p = b.commit()
	wantIs(t, "the next one is not spoilt", opened(t, d, 30), p)
}

// P10.5: Abort lets go all that was changed, and writes nothing.
func TestAbort(t *testing.T) {
	d, x, p := ofPages(t, 40, 9, 5)
	done := d.Done()
	for range 3 {
		b := paired(t, x, p)
		b.drop(2)
		b.write(3, 99, "new")
		b.alloc()
		b.alloc()
		b.setRoot(2, 9)
		wantSees(t, "open", b.a, b.p)
		b.a.Abort()
		b.a.Abort()
		wantNothing(t, "aborted", b.a)
		wantIs(t, "aborted", x, p)
	}
	if d.Done() != done {
		t.Error("Abort has written")
	}
	wantIs(t, "opened anew", opened(t, d, 40), p)
}

// P10.5: transactions go on and on, also where the log has no room left for the next one.
func TestCommitAgainAndAgain(t *testing.T) {
	for _, log := range []int{18, 19, 26, 40, 100} {
		const count = 12
		d, x := made(t, log, count)
		p := fresh(count)
		epochs := map[string]bool{}
		for n := range 60 {
			b := paired(t, x, p)
			switch {
			case n%5 == 4:
				b.drop(b.p.high - 1 - n%3)
			case n%5 == 3 && b.p.refuses(1) == api.OK:
				b.write(1, 1+n, textOf(n))
			case len(b.p.free) > 0 || b.p.high < count:
				b.write(b.alloc(), 1+n, textOf(n))
			default:
				b.setRoot(n%4, n)
			}
			p = b.commit()
			if d.Pending() != 0 {
				t.Error("what was committed is pending")
			}
			wantIs(t, "committed", x, p)
			image := all(t, d)
			epochs[image[0][4:12]] = true
			wantIs(t, "opened anew beside it", opened(t, diskOf(t, image), log), p)
			if t.Failed() {
				t.Fatalf("log of %d, at %d", log, n)
			}
		}
		if len(epochs) < 2 {
			t.Errorf("a log of %d was never reset", log)
		}
	}
}

// P10.3: a page whose place has other bytes is told by an error, and no call goes astray by it.
func TestTornPlaces(t *testing.T) {
	const log, count, n = 40, 9, 6
	d, x, p := ofPages(t, log, count, n)
	for _, id := range []int{2, 5} {
		b := paired(t, x, p)
		b.drop(id)
		p = b.commit()
	}
	wantE(t, "Checkpoint", x.Checkpoint(), api.OK)
	image := all(t, d)
	for id := 1; id <= n; id++ {
		for what, c := range map[string]struct {
			s string
			e api.Errno
		}{
			"blank":          {strings.Repeat("\x00", 512), api.ErrSum},
			"another sum":    {plainPage(uint32(id), 5, "ab")[:511] + "\x00", api.ErrSum},
			"another number": {plainPage(uint32(id)+1, 5, "ab"), api.ErrForm},
		} {
			d := diskOf(t, image)
			put(t, d, log+8*id, pieces(c.s)...)
			x := opened(t, d, log)
			a := begun(t, x)
			wantE(t, what+": Read", errorOf(a.Read(id)), c.e)
			if a.Changed() != 0 {
				t.Errorf("%s: changed %d", what, a.Changed())
			}
			if id == 5 {
				wantE(t, what+": Alloc", noPage(a.Alloc()), c.e)
			}
			useUp(t, a, count)
		}
	}
	for what, s := range map[string]string{
		"not free":        plainPage(5, 1, low4(2)),
		"no number":       plainPage(5, 255, ""),
		"a short number":  plainPage(5, 255, "\x02"),
		"a long number":   plainPage(5, 255, low4(2)+"\x00"),
		"none ahead":      plainPage(5, 255, low4(0)),
		"the high mark":   plainPage(5, 255, low4(n+1)),
		"the greatest":    plainPage(5, 255, low4(1<<31-1)),
		"beyond all":      plainPage(5, 255, low4(1<<32-1)),
		"a whole body":    plainPage(5, 255, strings.Repeat("\x01", 500)),
		"a nought behind": plainPage(5, 255, "\x02\x00\x00\x00\x00"),
	} {
		d := diskOf(t, image)
		put(t, d, log+8*5, pieces(s)...)
		a := begun(t, opened(t, d, log))
		for range 2 {
			wantE(t, what, noPage(a.Alloc()), api.ErrForm)
		}
		if a.Changed() != 0 {
			t.Errorf("%s: changed %d", what, a.Changed())
		}
		useUp(t, a, count)
	}
	d = diskOf(t, image)
	put(t, d, log+8*5, pieces(plainPage(5, 255, low4(5)))...) // a ring
	a := begun(t, opened(t, d, log))
	wantE(t, "the first one of a ring", noPage(a.Alloc()), api.OK)
	for range 3 {
		wantE(t, "the second one of a ring", noPage(a.Alloc()), api.ErrForm)
	}
	useUp(t, a, count)
}

// P10.3, P10.5: a great database is allocated whole, freed whole, and allocated again in the order that was told.
func TestGreat(t *testing.T) {
	const log = 1026
	d := aDisk(t, 1<<16)
	x := opened(t, d, log)
	count := x.Count()
	if count != 8063 {
		t.Fatalf("count %d", count)
	}
	each := func(act func(a *Tx, id int), ids []int) {
		for some := range slices.Chunk(ids, 126) {
			a := begun(t, x)
			for _, id := range some {
				act(a, id)
			}
			wantE(t, "Commit", a.Commit(), api.OK)
		}
	}
	allocated := func(a *Tx, want int) {
		if id, e := a.Alloc(); id != want || e != api.OK {
			t.Fatalf("Alloc: %d, %d, want %d", id, e, want)
		}
		wantE(t, "Write", a.Write(want, 1+want%254, textOf(want%501)), api.OK)
	}
	var ids []int
	for id := 1; id < count; id++ {
		ids = append(ids, id)
	}
	each(allocated, ids)
	x = opened(t, d, log)
	a := begun(t, x)
	wantE(t, "full", noPage(a.Alloc()), api.ErrFull)
	for _, id := range ids {
		if kind, body, e := a.Read(id); kind != 1+id%254 || body != textOf(id%501) || e != api.OK {
			t.Fatalf("Read(%d): %d, %d bytes, error %d", id, kind, len(body), e)
		}
	}
	a.Abort()
	order := slices.Clone(ids)
	fixedRow().Shuffle(len(order), func(i, j int) { order[i], order[j] = order[j], order[i] })
	each(func(a *Tx, id int) { wantE(t, "Free", a.Free(id), api.OK) }, order)
	x = opened(t, d, log)
	if x.Free() != count-1 || x.High() != count {
		t.Fatalf("free %d, high mark %d", x.Free(), x.High())
	}
	slices.Reverse(order)
	each(allocated, order)
}
