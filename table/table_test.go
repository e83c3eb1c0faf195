package table

import (
	"fmt"
	"math"
	"testing"

	"aquifer/api"
	"aquifer/pagedb"
	"aquifer/sector"
	"aquifer/wal"
)

// TestExample is the chapter's own.
func TestExample(t *testing.T) {
	a := begun(t, made(t, 20))
	r, s, other := rec(7), rec("s"), rec("t", 1)
	wantE(t, "Put", a.Put(1, key("a", 5), r), api.OK)
	wantE(t, "Put", a.Put(1, key("a", 3), s), api.OK)
	wantE(t, "Put", a.Put(2, key("a"), other), api.OK)
	rows, e := a.Scan(1, key("a"))
	if e != api.OK || !sameRows(rows, []api.Row{{Key: key("a", 3), Rec: s}, {Key: key("a", 5), Rec: r}}) {
		t.Errorf("Scan: %v, %d", rows, e)
	}
}

// refused fails, if Open does not tell that error, and no store.
func refused(t *testing.T, what any, d *sector.Disk, log int, err api.Errno) {
	t.Helper()
	if s, e := Open(d, log); s != nil || e != err {
		t.Errorf("%v: Open with a log of %d: %v, %d; want %d", what, log, s, e, err)
	}
}

// P14.1: no disk, one without power, and logs that are no part of it.
func TestOpenOfNoDisk(t *testing.T) {
	for what, d := range map[string]*sector.Disk{"nil": nil, "one that New did not make": {}} {
		for _, log := range []int{-1, 0, 2, 40, math.MaxInt} {
			refused(t, what, d, log, api.ErrNil)
		}
	}
	d := aDisk(t, 200)
	for _, log := range []int{math.MinInt, -1, 0, 1, 201, 1 << 16, math.MaxInt} {
		refused(t, "no log", d, log, api.ErrArg)
	}
	wantE(t, "Off", d.Off(), api.OK)
	for _, log := range []int{-1, 2, 40, 201} {
		refused(t, "without power", d, log, api.ErrDown)
	}
}

// P14.1: a disk with room for four pages behind the log is enough, and for less it is too small.
func TestOpenOfSmallDisk(t *testing.T) {
	for _, log := range []int{2, 3, 10, 40} {
		for more := range 50 {
			d := aDisk(t, log+more)
			if more < 32 {
				refused(t, fmt.Sprint(more, " sectors behind the log"), d, log, api.ErrArg)
				continue
			}
			wantPages(t, "a new one", opened(t, d, log), 0, more/8)
			if d.Done() != 0 {
				t.Error("Open of a disk of noughts has written")
			}
		}
	}
	wantPages(t, "the greatest disk", opened(t, aDisk(t, 1<<16), 2), 0, 8191)
}

// P14.1: a disk whose log, or whose page 0, is none: the errors of pagedb's Open, which writes nothing then.
func TestOpenOfHarmedDisk(t *testing.T) {
	const log = 40
	for what, c := range map[string]struct {
		at   int
		s    string
		want api.Errno
	}{
		"no head":   {0, "no head", api.ErrForm},
		"no page 0": {log, "no page", api.ErrSum},
		"no frames": {1, "\x01", api.ErrSum},
	} {
		d := aDisk(t, 200)
		b := paired(t, opened(t, d, log), nil)
		b.put(1, key("a"), rec(1))
		b.commit()
		harmed := copyOf(t, d)
		wantE(t, "the disk's Write", harmed.Write(c.at, c.s), api.OK)
		if c.at == log {
			// Page 0 is in the log as well: its place is read when that has none.
			wantE(t, "Checkpoint", opened(t, d, log).Checkpoint(), api.OK)
			harmed = copyOf(t, d)
			wantE(t, "the disk's Write", harmed.Write(c.at, c.s), api.OK)
		}
		_, e := pagedb.Open(copyOf(t, harmed), log)
		wantE(t, what+": pagedb", e, c.want)
		done := harmed.Done()
		refused(t, what, harmed, log, c.want)
		if harmed.Done() != done {
			t.Errorf("%s: Open has written", what)
		}
	}
}

// P14.1, P14.4: a disk that has a store already tells what was committed; whether it stands in the log still, or at its places.
func TestOpenOfStore(t *testing.T) {
	const log = 300
	d := aDisk(t, log+8*60)
	var has plain
	for i := range 30 {
		s := opened(t, d, log)
		b := paired(t, s, has)
		b.want(i)
		b.put(i%3, key("k", i), rec(i, textOf(i*40)))
		if i%4 == 3 {
			b.drop((i-2)%3, key("k", i-2))
		}
		has = b.commit()
		if i%7 == 6 {
			wantE(t, "Checkpoint", s.Checkpoint(), api.OK)
		}
		wantStored(t, i, d, log, s, has)
	}
	if len(has) != 23 {
		t.Errorf("%d rows", len(has))
	}
}

// P14.1: no store, and one that Open did not make.
func TestNoStore(t *testing.T) {
	for what, s := range map[string]*Store{"nil": nil, "one that Open did not make": {}, "a new one": new(Store)} {
		for range 2 {
			wantNoTxn(t, what, s, api.ErrNil)
			wantE(t, what+": Checkpoint", s.Checkpoint(), api.ErrNil)
			wantPages(t, what, s, 0, 0)
		}
	}
}

// P14.1: while a transaction is open there is no other one, and no Checkpoint; and the one that is open sees nothing of that.
func TestBeginWhileOneIsOpen(t *testing.T) {
	s := made(t, 20)
	for i, end := range []func(a *Txn){
		func(a *Txn) { wantE(t, "Commit", a.Commit(), api.OK) },
		func(a *Txn) { a.Abort() },
		func(a *Txn) {
			wantE(t, "Put", a.Put(1, key("much"), recOf(1<<14)), api.ErrFull)
			wantE(t, "Commit", a.Commit(), api.ErrState)
		},
	} {
		b := paired(t, s, nil)
		for range 2 {
			wantNoTxn(t, "one is open", s, api.ErrState)
			wantE(t, "Checkpoint", s.Checkpoint(), api.ErrState)
			b.put(1, key(i), rec(i))
			b.drop(1, key(i))
			b.want("one is open")
		}
		end(b.a)
		wantEnded(t, "ended", b.a)
		wantE(t, "Checkpoint", s.Checkpoint(), api.OK)
	}
	begun(t, s)
}

// P14.1: behind a Checkpoint the log has no records, and the store is as it was.
func TestCheckpoint(t *testing.T) {
	const log = 400
	d := aDisk(t, log+8*60)
	s := opened(t, d, log)
	var has plain
	for i := range 20 {
		b := paired(t, s, has)
		b.put(i%2, key(i), rec(textOf(i*30)))
		has = b.commit()
		if i%3 > 0 {
			continue
		}
		if l, e := wal.Open(d, 0, log); e != api.OK || len(l.Records()) == 0 {
			t.Errorf("the log has no records, error %d", e)
		}
		for range 2 {
			wantE(t, "Checkpoint", s.Checkpoint(), api.OK)
			if l, e := wal.Open(d, 0, log); e != api.OK || len(l.Records()) != 0 {
				t.Errorf("the log has %d records, error %d", len(l.Records()), e)
			}
		}
		b = paired(t, s, has)
		b.want("behind Checkpoint")
		b.a.Abort()
		wantStored(t, "behind Checkpoint", d, log, s, has)
	}
}

// P14.1: Pages of an empty store, behind puts, and behind deletes: those that a transaction has changed are told when it has committed.
func TestPages(t *testing.T) {
	const log, count = 1100, 80
	d := aDisk(t, log+8*count+7)
	s := opened(t, d, log)
	wantPages(t, "empty", s, 0, count)
	b := paired(t, s, nil)
	wantPages(t, "begun", s, 0, count)
	b.put(1, key("a"), rec(1))
	wantPages(t, "put", s, 0, count)
	has := b.commit()
	wantPages(t, "one row: a leaf", s, 1, count)
	b = paired(t, s, has)
	b.put(1, key("b"), recOf(1000))
	wantPages(t, "put", s, 1, count)
	b.a.Abort()
	wantPages(t, "aborted", s, 1, count)
	b = paired(t, s, has)
	b.put(1, key("b"), recOf(1000))
	has = b.commit()
	wantPages(t, "a leaf, and three pages of a record", s, 4, count)
	b = paired(t, s, has)
	for i := range 60 {
		b.put(2, key(i), rec(textOf(60)))
	}
	has = b.commit()
	wantStored(t, "many rows", d, log, s, has)
	used, _ := s.Pages()
	if used < 60*75/500 {
		t.Errorf("%d pages for 60 rows of 75 bytes", used)
	}
	for i := range 60 {
		b = paired(t, s, has)
		b.drop(2, key(i*7%60))
		has = b.commit()
		wantStored(t, "a row less", d, log, s, has)
	}
	wantPages(t, "as ahead of them", s, 4, count)
	b = paired(t, s, has)
	b.drop(1, key("b"))
	has = b.commit()
	wantPages(t, "a leaf again", s, 1, count)
	b = paired(t, s, has)
	b.drop(1, key("a"))
	b.commit()
	wantPages(t, "empty again", s, 0, count)
	wantPages(t, "opened anew", opened(t, d, log), 0, count)
}

// P14.1: a store is a database whose root 0 is a tree: what stands at other roots is neither seen nor changed.
func TestRootNoughtAlone(t *testing.T) {
	const log = 300
	d := aDisk(t, log+8*40)
	tx := based(t, d, log)
	id, e := tx.Alloc()
	wantE(t, "Alloc", e, api.OK)
	wantE(t, "Write", tx.Write(id, 77, "another's"), api.OK)
	for i := 1; i < 4; i++ {
		wantE(t, "SetRoot", tx.SetRoot(i, id), api.OK)
	}
	wantE(t, "Commit", tx.Commit(), api.OK)
	s := opened(t, d, log)
	wantPages(t, "another's page", s, 1, 40)
	b := paired(t, s, nil)
	b.want("nothing yet")
	for i := range 30 {
		b.put(1, key(i), rec(textOf(i*20)))
	}
	for i := range 30 {
		b.drop(1, key(i))
	}
	b.put(1, key("a"), rec(1))
	b.commit()
	wantPages(t, "another's page, and a leaf", s, 2, 40)
	tx = based(t, copyOf(t, d), log)
	if kind, body, e := tx.Read(id); kind != 77 || body != "another's" || e != api.OK {
		t.Errorf("another's page: %d, %q, %d", kind, body, e)
	}
	if tx.Root(0) == 0 || tx.Root(1) != id || tx.Root(2) != id || tx.Root(3) != id {
		t.Errorf("roots %d, %d, %d, %d", tx.Root(0), tx.Root(1), tx.Root(2), tx.Root(3))
	}
}
