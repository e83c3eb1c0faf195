package content

import (
	"fmt"
	"slices"
	"testing"

	"aquifer/api"
	"aquifer/sector"
	"aquifer/table"
)

// told tells what all calls that change nothing tell of a transaction, errors among it.
func told(a *table.Txn, last int) []string {
	var l []string
	tell := func(x ...any) { l = append(l, fmt.Sprintf("%d", x)) }
	n, e := Last(a)
	tell(n, e)
	n, e = Bytes(a)
	tell(n, e)
	for id := 1; id <= last; id++ {
		have, e := Have(a, id)
		tell(have, e)
		for i := range 64 {
			s, there, e := Get(a, id, i)
			tell(s, there, e)
		}
		s, e := All(a, id, 64)
		tell(s, e)
	}
	return l
}

// changes tells calls that change something, some of which reach many pages.
func changes() map[string]func(a *table.Txn) api.Errno {
	l := map[string]func(a *table.Txn) api.Errno{
		"New":         func(a *table.Txn) api.Errno { _, e := New(a); return e },
		"Put":         func(a *table.Txn) api.Errno { _, e := putting(1)(a); return e },
		"Put of much": func(a *table.Txn) api.Errno { _, e := putting(4096)(a); return e },
	}
	for id := 1; id <= 4; id++ {
		l[fmt.Sprint("Set ", id)] = func(a *table.Txn) api.Errno { return Set(a, id, 8, textOf(64)) }
		l[fmt.Sprint("Drop ", id)] = func(a *table.Txn) api.Errno { return Drop(a, id) }
	}
	return l
}

// harmedCopy tells a disk that has the same, but a byte of a page.
func harmedCopy(t *testing.T, d *sector.Disk, id int) *sector.Disk {
	t.Helper()
	harmed := copyOf(t, d)
	at := madeLog + 8*id
	body, e := harmed.Read(at)
	wantE(t, "the disk's Read", e, api.OK)
	wantE(t, "the disk's Write", harmed.Write(at, "~"+body[1:]), api.OK)
	return harmed
}

// P16.4: a page that the disk has harmed: the error of the transaction, with nothing. What was changed ahead of it, in pages that are sound, is as it was.
func TestHarmedPages(t *testing.T) {
	d := aDisk(t, madeLog+8*60)
	s := opened(t, d)
	b := paired(t, s, plain{})
	for n := range 4 {
		b.new()
		for i := 0; i < 64; i += 7 {
			b.set(n+1, i, textOf(8))
		}
	}
	b.commit()
	wantE(t, "Checkpoint", s.Checkpoint(), api.OK)
	used, _ := s.Pages()
	failed := map[string]int{}
	for id := 1; id <= used; id++ {
		harmed := harmedCopy(t, d, id)
		for name, call := range changes() {
			a := begun(t, opened(t, harmed))
			was := told(a, 4)
			e := call(a)
			if e == api.OK {
				continue
			}
			failed[name]++
			what := fmt.Sprint(name, " with page ", id, " harmed")
			wantE(t, what, e, api.ErrSum)
			if is := told(a, 4); !slices.Equal(is, was) {
				t.Errorf("%s: %q, it was %q", what, is, was)
			}
		}
	}
	for name := range changes() {
		if failed[name] == 0 {
			t.Errorf("%s did not fail", name)
		}
	}
}

// P16.4: the error of a harmed page is told by all calls that must read it.
func TestHarmedRoot(t *testing.T) {
	d := aDisk(t, madeLog+8*20)
	s := opened(t, d)
	b := paired(t, s, plain{})
	b.put("x")
	b.commit()
	wantE(t, "Checkpoint", s.Checkpoint(), api.OK)
	a := begun(t, opened(t, harmedCopy(t, d, 1)))
	for what, call := range map[string]func(a *table.Txn) (int, api.Errno){"New": New, "Last": Last, "Bytes": Bytes, "Put": putting(4096)} {
		wantID(t, what, a, call, 0, api.ErrSum)
	}
	wantID(t, "Put of too much", a, putting(4097), 0, api.ErrLong)
	wantE(t, "Set", Set(a, 1, 0, "x"), api.ErrSum)
	wantSizeRefused(t, "All", a, 1, 0, api.ErrSum)
	wantE(t, "Drop", Drop(a, 1), api.ErrSum)
	wantRefused(t, "number 0", a, 0, 0, 0, api.ErrArg)
}
