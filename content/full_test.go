package content

import (
	"fmt"
	"testing"

	"aquifer/api"
	"aquifer/table"
)

// wantSpoilt fails, if a transaction that told ErrFull is not as it was, or Commit does not refuse it. No chunk is left of what was refused, whatever its number.
func (b *pair) wantSpoilt(what string) {
	b.t.Helper()
	b.want(what)
	if rows, e := b.a.Scan(2, nil); len(rows) != len(b.p.has) || e != api.OK {
		b.t.Errorf("%s: %d rows of chunks, %d; want %d", what, len(rows), e, len(b.p.has))
	}
	wantE(b.t, what+": Commit", b.a.Commit(), api.ErrState)
	wantNothing(b.t, what+": ended", b.a, api.ErrNil)
}

// P16.4: a store that is full, at whichever chunk of a Put: ErrFull, nothing of the content is there, and Commit is refused; behind it is what was committed, and room for less.
func TestFullPut(t *testing.T) {
	for count := 4; count <= 43; count += 3 {
		for _, size := range []int{64, 400, 4096} {
			what := fmt.Sprint(count, " pages, ", size, " bytes")
			s := made(t, count)
			b := paired(t, s, plain{})
			b.new()
			b.set(1, 3, "x")
			p := b.commit()
			b = paired(t, s, p)
			id, e := putting(size)(b.a)
			for ; e == api.OK; id, e = putting(size)(b.a) {
				b.p = b.p.and(textOf(size))
			}
			if id != 0 || e != api.ErrFull {
				t.Errorf("%s: %d, %d", what, id, e)
			}
			b.wantSpoilt(what)
			b = paired(t, s, p)
			b.want(what + ", behind it")
			b.put("y")
			b.set(1, 4, "z")
			b = paired(t, s, b.commit())
			b.want(what + ", committed")
		}
	}
}

// P16.4: a store that is full for Set: the chunk is as it was; what needs no page more is done, and changes nothing of how Commit ends.
func TestFullSet(t *testing.T) {
	for count := 4; count <= 20; count++ {
		what := fmt.Sprint(count, " pages")
		s := made(t, count)
		b := paired(t, s, plain{})
		b.new()
		p := b.commit()
		b = paired(t, s, p)
		e := api.OK
		for n := 0; e == api.OK; n++ {
			if n%64 == 0 {
				b.new()
			}
			if e = Set(b.a, b.p.last, n%64, textOf(50)); e == api.OK {
				b.p = b.p.with(b.p.last, n%64, textOf(50))
			}
		}
		wantE(t, what, e, api.ErrFull)
		refused := 0
		for i := range 64 {
			if e := Set(b.a, 1, i, textOf(64)); e == api.OK {
				b.p = b.p.with(1, i, textOf(64))
			} else if refused++; e != api.ErrFull {
				t.Errorf("%s: Set(1, %d): %d", what, i, e)
			}
		}
		if refused == 0 {
			t.Errorf("%s: none was refused", what)
		}
		b.wantSpoilt(what)
		b = paired(t, s, p)
		b.want(what + ", behind it")
		b.put(textOf(100))
		b.commit()
	}
}

// filled tells a store in which there is no room for one more row of n bytes, where those of all contents would stand.
func filled(t *testing.T, n int) *table.Store {
	t.Helper()
	s := made(t, 4)
	for i := 0; ; i-- {
		a := begun(t, s)
		if a.Put(9, parts(i), text(1, textOf(n))) != api.OK {
			a.Abort()
			return s
		}
		wantE(t, "the store's Commit", a.Commit(), api.OK)
	}
}

// P16.4: a store that is full for the first number: it was not given, and no chunk is there that was put ahead of it.
func TestFullNumber(t *testing.T) {
	calls := map[string]struct {
		s    string
		call func(a *table.Txn) (int, api.Errno)
	}{"New": {"", New}, "Put of nothing": {"", putting(0)}, "Put of a byte": {textOf(1), putting(1)}, "Put of two chunks": {textOf(65), putting(65)}}
	refused, numberRefused := map[string]int{}, 0
	for n := 1; n < 64; n++ {
		s := filled(t, n)
		for name, c := range calls {
			what := fmt.Sprint("rows of ", n, ": ", name)
			b := paired(t, s, plain{})
			id, e := c.call(b.a)
			if e == api.OK {
				b.p = b.p.and(c.s)
				b.want(what)
				b.a.Abort()
				continue
			}
			refused[name]++
			if id != 0 || e != api.ErrFull {
				t.Errorf("%s: %d, %d", what, id, e)
			}
			b.wantSpoilt(what)
			b = paired(t, s, plain{})
			if name == "Put of a byte" && b.a.Put(2, parts(1, 0), text(1, "x")) == api.OK {
				numberRefused++
			}
			b.a.Abort()
		}
	}
	if len(refused) != len(calls) || numberRefused == 0 {
		t.Errorf("refused: %v, and %d numbers behind their chunks", refused, numberRefused)
	}
}

// P16.4: what no room was for goes on behind Drop in another transaction, and a transaction of too many pages is refused whole.
func TestFullAndDrop(t *testing.T) {
	s := made(t, 36)
	b := paired(t, s, plain{})
	b.put(textOf(4096))
	p := b.commit()
	b = paired(t, s, p)
	wantID(t, "Put", b.a, putting(4096), 0, api.ErrFull)
	b.drop(1)
	b.want("Drop of a spoilt one")
	wantE(t, "Commit", b.a.Commit(), api.ErrState)
	b = paired(t, s, p)
	b.want("it is there again")
	b.drop(1)
	b.put(textOf(4096))
	b = paired(t, s, b.commit())
	b.want("the other one")
}

// P16.4: a transaction of too many pages: Commit refuses it whole.
func TestTooMuch(t *testing.T) {
	s := made(t, 900)
	b := paired(t, s, plain{})
	b.put("x")
	p := b.commit()
	b = paired(t, s, p)
	for range 10 {
		b.put(textOf(4096))
	}
	b.want("much")
	wantE(t, "Commit of too much", b.a.Commit(), api.ErrFull)
	b = paired(t, s, p)
	b.want("behind too much")
}
