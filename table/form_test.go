package table

import (
	"fmt"
	"strings"
	"testing"

	"aquifer/api"
)

// noRecords are bytes that no record has.
func noRecords() []string {
	return []string{
		"\x00", "\x01\x00", "x", "\x02", "\x05\x02a", "\x02\x80", "\x02\x80\x00", "\x04\x01\x02\x01", "\x80\x01\x01", "\x02\x01x",
		"\x02\xff\xff\xff\xff\xff\xff\xff\xff\xff\x01", strings.Repeat("\xff", 600), strings.Repeat("\x02\x01", 700) + "\x02",
	}
}

// P14.3: what stands at a key is no record: Get and Scan tell ErrForm; Put and Delete of it are done, and what stands beside it is told.
func TestNoRecords(t *testing.T) {
	const log = 300
	for _, val := range noRecords() {
		d := aDisk(t, log+8*30)
		what := fmt.Sprintf("%.20q", val)
		laid(t, d, log, api.Entry{Key: plainKey(1, key("b", 2)...), Val: val}, api.Entry{Key: plainKey(4), Val: val})
		s := opened(t, d, log)
		b := paired(t, s, nil)
		b.put(1, key("a"), rec(1))
		b.put(1, key("b", 1), rec(2))
		b.put(1, key("b", 3), rec(3))
		b.put(1, key("c"), rec(4))
		b.put(2, key("b", 2), rec(5))
		for range 2 {
			wantFormError(t, what, b.a, 1, key("b", 2), nil, key("b"), key("b", 2))
			wantFormError(t, what, b.a, 4, nil, nil)
			for _, r := range b.has {
				b.get(what, r.table, r.key)
			}
			b.scan(what, 1, key("a"))
			b.scan(what, 1, key("b", 1))
			b.scan(what, 1, key("b", 3))
			b.scan(what, 1, key("b", 2, 0))
			b.scan(what, 2, nil)
			b.scan(what, 4, key(0))
		}
		if there, e := b.a.Delete(4, nil); !there || e != api.OK {
			t.Errorf("%s: Delete: %v, %d", what, there, e)
		}
		b.put(1, key("b", 2), rec(6))
		b.want(what + ", put and deleted")
		b.commit()
	}
}

// wantFormError fails, if Get of a key, or Scan of beginnings of it, does not tell ErrForm, with nothing.
func wantFormError(t *testing.T, what string, a *Txn, table int, key []api.Part, prefixes ...[]api.Part) {
	t.Helper()
	if rec, there, e := a.Get(table, key); len(rec) != 0 || there || e != api.ErrForm {
		t.Errorf("%s: Get(%d, %v): %v, %v, %d", what, table, key, rec, there, e)
	}
	for _, p := range prefixes {
		if rows, e := a.Scan(table, p); len(rows) != 0 || e != api.ErrForm {
			t.Errorf("%s: Scan(%d, %v): %v, %d", what, table, p, rows, e)
		}
	}
}

// P14.3: what stands in a table's place is no key: it is no row, and Scan tells ErrForm; those ahead of the tables and behind them are none of any.
func TestNoKeys(t *testing.T) {
	const log = 300
	for _, rest := range []string{"\x00", "\x30", "\x10\x80", "\x20abc", "\x20a\x00\x02", "\x20\x00\x01\xff", "\xff", "\xff\xff", strings.Repeat("\x20\x00\x01", 16), "\x20" + strings.Repeat("x", 121) + "\x00\x01"} {
		d := aDisk(t, log+8*30)
		what := fmt.Sprintf("%.20q", rest)
		laid(t, d, log, api.Entry{Key: plainKey(1) + rest, Val: "\x02\x01"})
		b := paired(t, opened(t, d, log), nil)
		b.put(0, key("a"), rec(1))
		b.put(1, key("a", 1), rec(2))
		b.put(2, nil, rec(3))
		if rows, e := b.a.Scan(1, nil); len(rows) != 0 || e != api.ErrForm {
			t.Errorf("%s: Scan: %v, %d", what, rows, e)
		}
		for _, r := range b.has {
			b.get(what, r.table, r.key)
		}
		b.scan(what, 0, nil)
		b.scan(what, 1, key("a", 1))
		b.scan(what, 2, nil)
	}
	d := aDisk(t, log+8*30)
	for _, k := range []string{"\x00", "a", "\xff", "\x10", plainKey(-1), plainKey(maxTable + 1), strings.Repeat("\xff", 140), plainKey(1)[:8]} {
		laid(t, d, log, api.Entry{Key: k, Val: "no record"})
	}
	b := paired(t, opened(t, d, log), nil)
	b.want("nothing of a table")
	b.put(0, nil, rec(1))
	b.put(maxTable, times(14, num(-1)), rec(2))
	b.want("the first and the last table")
}

// P14.2: a page that the disk has harmed, and a tree that is none: the errors of the tree, of each call; they are told ahead of what is no record.
func TestHarmedTree(t *testing.T) {
	const log, count = 300, 60
	d := aDisk(t, log+8*count)
	laid(t, d, log, api.Entry{Key: plainKey(1), Val: "no record"})
	s := opened(t, d, log)
	b := paired(t, s, nil)
	for i := range 40 {
		b.put(1, key(i), rec(textOf(100)))
	}
	wantFormError(t, "no record", b.a, 1, nil, nil)
	b.commit()
	wantE(t, "Checkpoint", s.Checkpoint(), api.OK)
	used, _ := s.Pages()
	sums := 0
	for id := 1; id <= used; id++ {
		harmed := copyOf(t, d)
		at := log + 8*id
		body, _ := harmed.Read(at)
		wantE(t, "the disk's Write", harmed.Write(at, "~"+body[1:]), api.OK)
		a := begun(t, opened(t, harmed, log))
		if rows, e := a.Scan(1, nil); len(rows) != 0 || e != api.ErrSum {
			t.Errorf("page %d: Scan: %s, %d", id, show(rows), e)
		}
		for i := range 40 {
			rec, there, e := a.Get(1, key(i))
			if e == api.OK && there {
				continue
			}
			sums++
			if len(rec) != 0 || there || e != api.ErrSum {
				t.Errorf("page %d: Get(%d): %s, %v, %d", id, i, show(rec), there, e)
			}
			wantNothing(t, fmt.Sprint("page ", id), a, 1, key(i), api.ErrSum)
		}
	}
	if sums < 40 {
		t.Errorf("%d keys were not told", sums)
	}
	tx := based(t, d, log)
	id, e := tx.Alloc()
	wantE(t, "Alloc", e, api.OK)
	wantE(t, "Write", tx.Write(id, 77, "no node"), api.OK)
	wantE(t, "SetRoot", tx.SetRoot(0, id), api.OK)
	wantE(t, "Commit", tx.Commit(), api.OK)
	a := begun(t, opened(t, d, log))
	wantNothing(t, "no tree", a, 1, key(1), api.ErrForm)
	wantE(t, "Commit", a.Commit(), api.OK)
}
