package content

import (
	"fmt"
	"math"
	"slices"
	"strings"
	"testing"
	"unsafe"

	"aquifer/api"
	"aquifer/table"
)

// TestExample is the chapter's own.
func TestExample(t *testing.T) {
	a := begun(t, made(t, 20))
	id, e := Put(a, textOf(65))
	if id != 1 || e != api.OK {
		t.Errorf("Put: %d, %d", id, e)
	}
	if l, e := Have(a, 1); e != api.OK || !slices.Equal(l, []int{0, 1}) {
		t.Errorf("Have: %v, %d", l, e)
	}
	wantE(t, "Drop", Drop(a, 1), api.OK)
	if l, e := Have(a, 1); e != api.OK || len(l) != 0 {
		t.Errorf("Have behind Drop: %v, %d", l, e)
	}
	wantID(t, "New", a, New, 2, api.OK)
}

// P16.1: numbers rise from 1 on, by New and by Put, and do not come again, whatever is dropped or aborted behind them.
func TestNumbers(t *testing.T) {
	s := made(t, 60)
	b := paired(t, s, plain{})
	b.want("none was given")
	b.new()
	b.want("one was given")
	b.put("x")
	b.put("")
	b.new()
	b.drop(4)
	b.drop(2)
	b.want("the last one was dropped")
	b.new()
	for id := range b.p.last {
		b.drop(id + 1)
	}
	b.want("all were dropped")
	b = paired(t, s, b.commit())
	b.want("committed")
	for range 300 {
		b.new()
	}
	b.put("y")
	if b.p.last != 306 {
		t.Errorf("the last one is %d", b.p.last)
	}
	b.want("many were given")
	b = paired(t, s, b.commit())
	b.want("committed again")
}

// P16.1, P16.3: the greatest number is MaxTime: it is given, and none behind it. That refuses a call, and spoils nothing.
func TestGreatestNumber(t *testing.T) {
	for what, give := range map[string]func(b *pair){
		"New": (*pair).new,
		"Put": func(b *pair) { b.put(textOf(70)) },
	} {
		s := made(t, 40)
		b := paired(t, s, plain{last: api.MaxTime - 2})
		numbered(t, b.a, api.MaxTime-2)
		b.put("ahead")
		b.want("one is left")
		give(b)
		if b.p.last != 1<<40 {
			t.Errorf("the last one is %d", b.p.last)
		}
		b.set(1<<40, 63, "x")
		b.want(what + " of the last one")
		for _, size := range []int{0, 1, 64, 4096} {
			wantID(t, "Put", b.a, putting(size), 0, api.ErrFull)
		}
		wantID(t, "Put of too much", b.a, putting(4097), 0, api.ErrLong)
		wantID(t, "New", b.a, New, 0, api.ErrFull)
		b.drop(1 << 40)
		wantID(t, "New behind Drop", b.a, New, 0, api.ErrFull)
		b.want("none is left")
		b = paired(t, s, b.commit())
		b.want("committed")
		wantID(t, "New, committed", b.a, New, 0, api.ErrFull)
	}
}

// P16.2, P16.3: numbers that no content has, and places and sizes that may not be; none of these calls changes anything.
func TestArguments(t *testing.T) {
	b := paired(t, made(t, 120), plain{})
	places := []int{math.MinInt, -1 << 32, -64, -1, 64, 65, 1 << 32, math.MaxInt}
	sizes := []int{math.MinInt, -1 << 32, -4096, -1, 4097, 4160, 1 << 32, math.MaxInt}
	numbers := func() []int {
		return []int{math.MinInt, math.MinInt + 1, 1 - 1<<32, -2, -1, 0, b.p.last + 1, b.p.last + 2, b.p.last + 1<<32, 1 << 40, math.MaxInt - 1, math.MaxInt}
	}
	for turn := range 3 {
		what := fmt.Sprint(turn, " contents")
		for _, id := range numbers() {
			for _, i := range append([]int{0, 1, 63}, places...) {
				wantPlaceRefused(t, what, b.a, id, i, api.ErrArg)
			}
			for _, size := range append([]int{0, 64, 4096}, sizes...) {
				wantSizeRefused(t, what, b.a, id, size, api.ErrArg)
			}
			wantRefused(t, what, b.a, id, 0, 0, api.ErrArg)
		}
		for id := 1; id <= b.p.last; id++ {
			for _, i := range places {
				wantPlaceRefused(t, what, b.a, id, i, api.ErrArg)
			}
			for _, size := range sizes {
				wantSizeRefused(t, what, b.a, id, size, api.ErrArg)
			}
			for _, i := range []int{0, 1, 63} {
				wantE(t, what+": Set of nothing", Set(b.a, id, i, ""), api.ErrArg)
				wantE(t, what+": Set of too much", Set(b.a, id, i, textOf(65)), api.ErrLong)
			}
		}
		b.want(what)
		b.put(textOf(4000 + turn))
	}
}

// P16.2: chunks of each length that they may have, at the first place, the last one and behind a gap; one that is there already is another one then.
func TestSet(t *testing.T) {
	s := made(t, 60)
	b := paired(t, s, plain{})
	b.new()
	b.new()
	for _, i := range []int{63, 0, 40, 1, 62} {
		for n := 1; n <= 64; n++ {
			b.set(2, i, textOf(n))
			if s, there, e := Get(b.a, 2, i); s != textOf(n) || !there || e != api.OK {
				t.Errorf("Get of %d bytes: %q, %v, %d", n, s, there, e)
			}
		}
		for _, n := range []int{65, 66, 128, 4096, 4097, 1 << 17} {
			wantE(t, fmt.Sprint("Set of ", n, " bytes"), Set(b.a, 2, i, textOf(n)), api.ErrLong)
		}
		wantE(t, "Set of no bytes", Set(b.a, 2, i, ""), api.ErrArg)
		b.want(fmt.Sprint("place ", i))
		b.set(2, i, "\x00")
		b.want(fmt.Sprint("place ", i, " again"))
		b.set(2, i, strings.Repeat("\xff", 64))
	}
	b = paired(t, s, b.commit())
	b.want("committed")
	for i := range 64 {
		b.set(1, i, textOf(1+i))
	}
	b.want("the other one")
}

// P16.2: the places of no chunk, of one, of all, however they were set; and where one is not there.
func TestHave(t *testing.T) {
	order := fixedRow(1).Perm(64)
	b := paired(t, made(t, 60), plain{})
	for range 3 {
		b.new()
	}
	for n, i := range order {
		b.wantContent("of many", 2)
		b.set(2, i, textOf(64-n%3))
	}
	b.want("all")
	if l, _ := Have(b.a, 2); len(l) != 64 {
		t.Errorf("Have: %v", l)
	}
	for _, i := range []int{1, 0, 63, 17} {
		b.new()
		b.set(b.p.last, i, "x")
		b.want(fmt.Sprint("one, at ", i))
	}
}

// P16.3: contents of each length about the edges, twice the same bytes among them; one that is too long has no number.
func TestPut(t *testing.T) {
	s := made(t, 110)
	var p plain
	for _, n := range []int{0, 1, 2, 63, 64, 65, 66, 127, 128, 129, 1000, 4031, 4032, 4033, 4095, 4096} {
		b := paired(t, s, p)
		what := fmt.Sprint("Put of ", n, " bytes")
		b.put(textOf(n))
		b.put(textOf(n))
		for _, long := range []int{4097, 4098, 4160, 8192, 1 << 17} {
			wantID(t, "Put of too much", b.a, putting(long), 0, api.ErrLong)
		}
		for id := b.p.last - 1; id <= b.p.last; id++ {
			if s, e := All(b.a, id, n); s != textOf(n) || e != api.OK {
				t.Errorf("%s: All: %d bytes, %d", what, len(s), e)
			}
		}
		b.want(what)
		b = paired(t, s, b.commit())
		b.want(what + ", committed")
		b.drop(b.p.last)
		b.drop(b.p.last - 1)
		p = b.commit()
	}
}

// P16.3: All of a size that is lesser or greater than what is there, by all sizes; of nothing at size 0.
func TestAll(t *testing.T) {
	b := paired(t, made(t, 80), plain{})
	b.put(textOf(200))
	b.put(textOf(4096))
	b.put("")
	b.put(textOf(64))
	for id := range 4 {
		for size := range 4097 {
			want, wantE := b.p.all(id+1, size)
			if s, e := All(b.a, id+1, size); s != want || e != wantE {
				t.Errorf("All(%d, %d): %d bytes, %d; want %d bytes, %d", id+1, size, len(s), e, len(want), wantE)
			}
		}
	}
}

// P16.3: All where a chunk is not there, or has another length; the chunks behind those of the size count for nothing.
func TestAllOfParts(t *testing.T) {
	b := paired(t, made(t, 80), plain{})
	b.new()
	for _, c := range []struct {
		i, n int
		size int
		want api.Errno
	}{
		{2, 10, 138, api.ErrHollow},
		{0, 64, 138, api.ErrHollow},
		{0, 64, 64, api.OK},
		{1, 64, 138, api.OK},
		{1, 63, 138, api.ErrHollow},
		{1, 63, 127, api.OK},
		{1, 63, 64, api.OK},
		{1, 64, 139, api.ErrHollow},
		{1, 64, 137, api.ErrHollow},
		{2, 11, 139, api.OK},
		{2, 64, 139, api.ErrHollow},
		{0, 63, 192, api.ErrHollow},
		{0, 64, 192, api.OK},
		{63, 1, 4033, api.ErrHollow},
		{63, 1, 192, api.OK},
		{0, 1, 0, api.OK},
		{0, 1, 1, api.OK},
	} {
		b.set(1, c.i, textOf(c.n))
		_, e := All(b.a, 1, c.size)
		wantE(t, fmt.Sprintf("All of %d with %d bytes at %d", c.size, c.n, c.i), e, c.want)
		b.want(fmt.Sprint(c))
	}
	b.drop(1)
	_, e := All(b.a, 1, 0)
	wantE(t, "All of nothing", e, api.OK)
}

// P16.3: Drop of what is there, of a content without a chunk, and twice; a content that was dropped may have chunks again.
func TestDrop(t *testing.T) {
	s := made(t, 80)
	b := paired(t, s, plain{})
	for _, n := range []int{300, 0, 1, 4096, 64} {
		b.put(textOf(n))
	}
	b.set(2, 63, "x")
	for _, id := range []int{3, 1, 4, 2, 5} {
		for range 2 {
			b.drop(id)
			b.want(fmt.Sprint("Drop of ", id))
		}
		b.set(id, id, textOf(id))
		b.want(fmt.Sprint("Set behind Drop of ", id))
		b = paired(t, s, b.commit())
	}
	for id := range 5 {
		b.drop(id + 1)
	}
	b.want("all are dropped")
	if n, e := Bytes(b.a); n != 0 || e != api.OK {
		t.Errorf("Bytes: %d, %d", n, e)
	}
}

// P16.3: Bytes of no content, behind Put, behind Set of another length at the same place, behind Drop, written out by hand.
func TestBytes(t *testing.T) {
	b := paired(t, made(t, 80), plain{})
	bytes := func(want int) {
		t.Helper()
		b.wantSums("Bytes")
		if n, e := Bytes(b.a); n != want || e != api.OK {
			t.Errorf("Bytes: %d, %d; want %d", n, e, want)
		}
	}
	bytes(0)
	b.new()
	bytes(0)
	b.put(textOf(100))
	bytes(100)
	b.put(textOf(4096))
	bytes(4196)
	b.set(1, 5, textOf(64))
	bytes(4260)
	b.set(1, 5, textOf(3))
	bytes(4199)
	b.set(2, 0, "x")
	bytes(4136)
	b.set(2, 63, "xy")
	bytes(4138)
	b.drop(3)
	bytes(42)
	b.drop(3)
	bytes(42)
	b.drop(2)
	bytes(3)
	b.drop(1)
	bytes(0)
}

// P16.4: contents whose numbers are neighbours, or whose bytes are alike: what is done to one is done to it alone.
func TestContentsKnowNothingOfOneAnother(t *testing.T) {
	for _, from := range []int{0, 62, 254, 1<<16 - 3, 1<<32 - 3, 1<<40 - 8} {
		b := paired(t, made(t, 110), plain{last: from})
		numbered(t, b.a, from)
		for n := range 8 {
			b.put(textOf(n * 70))
		}
		what := fmt.Sprint("from ", from)
		b.want(what)
		for n, id := range fixedRow(2).Perm(8) {
			id += from + 1
			switch n % 3 {
			case 0:
				b.drop(id)
			case 1:
				b.set(id, 1, "another one")
			default:
				b.set(id, 63, textOf(64))
			}
			b.want(fmt.Sprint(what, ": ", id))
		}
		b.commit()
	}
}

// P16.2, P16.3: several errors at once: the one that comes first.
func TestErrorsInOrder(t *testing.T) {
	s := made(t, 6)
	b := paired(t, s, plain{})
	b.new()
	wantE(t, "the number ahead of the length", Set(b.a, 2, 0, textOf(65)), api.ErrArg)
	wantE(t, "the number ahead of no bytes", Set(b.a, 0, 0, ""), api.ErrArg)
	wantE(t, "the place ahead of the length", Set(b.a, 1, 64, textOf(65)), api.ErrArg)
	wantE(t, "the place ahead of the length", Set(b.a, 1, -1, textOf(1<<17)), api.ErrArg)
	wantSizeRefused(t, "the size ahead of what is there", b.a, 1, 4097, api.ErrArg)
	wantSizeRefused(t, "what is there", b.a, 1, 4096, api.ErrHollow)
	wantID(t, "the length ahead of the room", b.a, putting(4097), 0, api.ErrLong)
	wantE(t, "the length ahead of the room", Set(b.a, 1, 0, textOf(65)), api.ErrLong)
	b.want("all were refused")
	b = paired(t, s, b.commit())
	wantID(t, "no room", b.a, putting(4096), 0, api.ErrFull)
	wantID(t, "the length ahead of the room that is not there", b.a, putting(4097), 0, api.ErrLong)
	wantE(t, "the place ahead of the room that is not there", Set(b.a, 1, 64, "x"), api.ErrArg)
	b.want("no room")
}

// P16.4: nil, a transaction that no Begin made, and those that have ended: ErrNil, ahead of all other errors.
func TestNoTransaction(t *testing.T) {
	s := made(t, 20)
	b := paired(t, s, plain{})
	b.put(textOf(100))
	p := b.commit()
	aborted := begun(t, s)
	aborted.Abort()
	spoilt := begun(t, s)
	wantID(t, "no room", spoilt, func(a *table.Txn) (int, api.Errno) {
		for {
			if id, e := Put(a, textOf(4096)); e != api.OK {
				return id, e
			}
		}
	}, 0, api.ErrFull)
	wantE(t, "Commit", spoilt.Commit(), api.ErrState)
	for what, a := range map[string]*table.Txn{"nil": nil, "of no Begin": {}, "committed": b.a, "aborted": aborted, "spoilt": spoilt} {
		wantNothing(t, what, a, api.ErrNil)
		b := paired(t, s, p)
		wantNothing(t, what+", beside another one", a, api.ErrNil)
		b.want(what)
		b.a.Abort()
	}
}

// P16.1 to P16.4: any calls, in any order, in transactions that are committed or aborted.
func TestAnyCalls(t *testing.T) {
	for seed := range uint64(6) {
		row := fixedRow(10 + seed)
		s := made(t, 300)
		var p plain
		for range 12 {
			b := paired(t, s, p)
			b.new()
			for range row.IntN(12) {
				id := 1 + row.IntN(b.p.last)
				switch row.IntN(6) {
				case 0:
					b.new()
				case 1:
					b.put(textOf(row.IntN(400)))
				case 2, 3, 4:
					b.set(id, row.IntN(64), textOf(1+row.IntN(64)))
				case 5:
					b.drop(id)
				}
				b.wantContent(seed, id)
				b.wantSums(seed)
			}
			b.want(seed)
			if row.IntN(4) == 0 {
				b.a.Abort()
			} else {
				p = b.commit()
			}
		}
	}
}

// lent tells a text that stands in bytes which may be changed behind a call.
func lent(n int) ([]byte, string) {
	b := []byte(textOf(n))
	return b, unsafe.String(unsafe.SliceData(b), n)
}

// Rule 5: what is handed in is neither changed nor kept, and what is handed out is new memory.
func TestNothingIsShared(t *testing.T) {
	b := paired(t, made(t, 40), plain{})
	for _, n := range []int{1, 64, 65, 200} {
		b.put(textOf(n))
		bytes, s := lent(n)
		_, e := Put(b.a, s)
		wantE(t, "Put", e, api.OK)
		b.p = b.p.and(textOf(n))
		if string(bytes) != textOf(n) {
			t.Errorf("Put of %d bytes changed them", n)
		}
		clear(bytes)
		b.want("Put of what is changed then")
		n = min(n, 64)
		bytes, s = lent(n)
		wantE(t, "Set", Set(b.a, b.p.last, 7, s), api.OK)
		b.p = b.p.with(b.p.last, 7, textOf(n))
		if string(bytes) != textOf(n) {
			t.Errorf("Set of %d bytes changed them", n)
		}
		clear(bytes)
		b.want("Set of what is changed then")
		l, _ := Have(b.a, b.p.last)
		l[0] = 99
		_ = append(l[:0], 98)
		b.want("Have's list was changed")
	}
}
