package table

import (
	"fmt"
	"testing"

	"aquifer/api"
)

// P14.2, P14.3: a store that is full: ErrFull changes nothing, but Commit answers ErrState; what is there behind it is what was committed, and there is room again.
func TestFull(t *testing.T) {
	const log = 1100
	for count := 4; count <= 40; count += 3 {
		d := aDisk(t, log+8*count)
		s := opened(t, d, log)
		what := fmt.Sprint("with ", count, " pages")
		b := paired(t, s, nil)
		b.put(1, key("a"), rec(1))
		b.put(3, nil, rec("x"))
		has := b.commit()
		b = paired(t, s, has)
		e := api.OK
		for i := 0; e == api.OK && i < 1000; i++ {
			k, r := key("k", i*77%100), rec(textOf(i%3*300))
			if e = b.a.Put(2, k, r); e == api.OK {
				b.has = b.has.with(plainRow{2, k, r})
			}
		}
		wantE(t, what, e, api.ErrFull)
		b.want(what)
		// What needs no page more is done, and changes nothing of how Commit ends.
		b.drop(3, nil)
		b.put(1, key("a"), rec(2))
		b.want(what + ", changed again")
		wantE(t, what+": a record of many pages", b.a.Put(1, key("a"), recOf(1<<14)), api.ErrFull)
		b.want(what + ", refused again")
		wantNoTxn(t, what, s, api.ErrState)
		wantE(t, what+": Commit", b.a.Commit(), api.ErrState)
		wantEnded(t, what, b.a)
		wantStored(t, what, d, log, s, has)
		b = paired(t, s, has)
		b.want(what + ", behind Commit")
		b.put(2, key("k"), rec(7))
		has = b.commit()
		wantStored(t, what, d, log, s, has)
		b = paired(t, opened(t, d, log), has)
		b.want(what + ", opened anew")
	}
}

// P14.2: keys and records that may not be are no lack of room, though their error may be ErrFull: the transaction is not spoilt.
func TestRefusedIsNotSpoilt(t *testing.T) {
	s := made(t, 10)
	b := paired(t, s, nil)
	b.put(1, key("a"), rec(1))
	wantE(t, "Put of 17 parts", b.a.Put(1, times(16, num(1)), rec(1)), api.ErrFull)
	wantE(t, "Put of a long record", b.a.Put(1, key("a"), recOf(1<<15)), api.ErrLong)
	_, _, e := b.a.Get(1, times(16, num(1)))
	wantE(t, "Get of 17 parts", e, api.ErrFull)
	_, e = b.a.Delete(1, times(16, num(1)))
	wantE(t, "Delete of 17 parts", e, api.ErrFull)
	_, e = b.a.Scan(1, times(16, num(1)))
	wantE(t, "Scan of 17 parts", e, api.ErrFull)
	b = paired(t, s, b.commit())
	b.want("committed")
}

// P14.2, P14.3: one that is full may be aborted as well.
func TestFullAndAbort(t *testing.T) {
	s := made(t, 10)
	b := paired(t, s, nil)
	b.put(1, key("a"), rec(1))
	b = paired(t, s, b.commit())
	has := b.has
	b.drop(1, key("a"))
	wantE(t, "Put", b.a.Put(1, key("b"), recOf(1<<14)), api.ErrFull)
	b.a.Abort()
	wantEnded(t, "aborted", b.a)
	b = paired(t, s, has)
	b.want("behind Abort")
	b.put(1, key("b"), recOf(200))
	b.commit()
}

// P14.3: a transaction for which the log has no room: ErrFull of Commit, it has ended, and nothing is changed.
func TestCommitOfTooMuch(t *testing.T) {
	// A row needs two pages, a leaf and page 0: 12 + 2 * 516 bytes are 17 sectors.
	for log, want := range map[int]api.Errno{2: api.ErrFull, 17: api.ErrFull, 18: api.OK} {
		s := opened(t, aDisk(t, log+8*20), log)
		b := paired(t, s, nil)
		wantE(t, "Commit of nothing", b.a.Commit(), api.OK)
		b = paired(t, s, nil)
		b.put(1, key("a"), rec(1))
		wantE(t, fmt.Sprint("a log of ", log), b.a.Commit(), want)
		wantEnded(t, "ended", b.a)
		b = paired(t, s, nil)
		if want == api.OK {
			b.has = plain{{1, key("a"), rec(1)}}
		}
		b.want(log)
	}
	const log = 1100
	d := aDisk(t, log+8*400)
	s := opened(t, d, log)
	b := paired(t, s, nil)
	b.put(1, key("a"), rec(1))
	b = paired(t, s, b.commit())
	has := b.has
	for i := range 4 {
		b.put(2, key(i), recOf(1<<14))
	}
	wantE(t, "more than MaxRec bytes of pages", b.a.Commit(), api.ErrFull)
	wantEnded(t, "ended", b.a)
	wantStored(t, "nothing is changed", d, log, s, has)
	b = paired(t, s, has)
	b.want("nothing is changed")
	for i := range 3 {
		b.put(2, key(i), recOf(1<<14))
	}
	has = b.commit()
	wantStored(t, "three of them", d, log, s, has)
}
