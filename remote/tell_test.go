package remote

import (
	"math"
	"slices"
	"strings"
	"testing"

	"aquifer/api"
	"aquifer/blake"
)

// somewhat tells a server on which changes of all kinds were done.
func somewhat(t *testing.T) *pair {
	t.Helper()
	b := made(t, 1<<20)
	b.all(put("a.x", 0, "one", 11), put("d/b.x", 0, textOf(4096), 12), gone("a.x", 1, 13), link("d/e/c.x", 0, 1, 14), put("a.x", 0, "", 15), put("d/b.x", 2, "two", 16), gone("d/e/c.x", 4, 17))
	b.want("somewhat")
	return b
}

// P19.3: numbers that no version has are told as none, and so are tokens that have done nothing.
func TestNumbers(t *testing.T) {
	b := somewhat(t)
	for _, n := range append(most, 5, 6, 7, 8, 9, 4096, 4097, math.MinInt+1, math.MaxInt-1) {
		b.wantVersion("somewhat", n)
		b.wantToken("somewhat", n)
		e := made(t, 5)
		e.wantVersion("new", n)
		e.wantToken("new", n)
		if n < 1 || n > 7 {
			if c, e := b.s.Get(n); c != (api.Change{}) || e != api.ErrNone {
				t.Errorf("Get(%d): %v, error %d", n, c, int(e))
			}
		}
	}
	for n := range 7 {
		if got := b.s.Token(11 + n); got != n+1 {
			t.Errorf("Token(%d): %d", 11+n, got)
		}
	}
}

// P19.3: a version's change is told in full, and nothing but its path of what has gone.
func TestChanges(t *testing.T) {
	b := somewhat(t)
	for n, want := range []api.Change{
		{Version: 1, Path: "a.x", Size: 3, Sum: blake.Of([]byte("one"))},
		{Version: 2, Path: "d/b.x", Size: 4096, Sum: blake.Of([]byte(textOf(4096)))},
		{Version: 3, Path: "a.x", Gone: true},
		{Version: 4, Path: "d/e/c.x", Size: 3, Sum: blake.Of([]byte("one"))},
		{Version: 5, Path: "a.x", Sum: blake.Of(nil)},
		{Version: 6, Path: "d/b.x", Size: 3, Sum: blake.Of([]byte("two"))},
		{Version: 7, Path: "d/e/c.x", Gone: true},
	} {
		if c, e := b.s.Get(n + 1); c != want || e != api.OK {
			t.Errorf("Get(%d): %+v, error %d", n+1, c, int(e))
		}
		if l, e := b.s.Feed(n, 1); len(l) != 1 || l[0] != want || e != api.OK {
			t.Errorf("Feed(%d, 1): %+v, error %d", n, l, int(e))
		}
		_, e := b.s.Data(n + 1)
		if want.Gone != (e == api.ErrNone) || !want.Gone && e != api.OK {
			t.Errorf("Data(%d): error %d", n+1, int(e))
		}
	}
}

// P19.3: Now tells what a path has, and nothing of one that has nothing, or is no file's.
func TestNow(t *testing.T) {
	b := made(t, 100)
	b.wantNow("new", "a.x")
	b.all(put("a.x", 0, "one", 1))
	for p := range noFiles() {
		if c := b.s.Now(p); c != (api.Change{}) {
			t.Errorf("Now(%.30q): %+v", p, c)
		}
	}
	for _, p := range []string{"b.x", "a.y", "a.xx", "a/a.x", "d/a.x"} {
		if c := b.s.Now(p); c != (api.Change{}) {
			t.Errorf("Now(%q): %+v", p, c)
		}
	}
	steps := []struct {
		c   call
		now int
	}{{put("a.x", 1, "two", 0), 2}, {gone("a.x", 2, 0), 0}, {put("b.x", 0, "y", 0), 0}, {put("a.x", 0, "three", 0), 5}, {link("a.x", 5, 1, 0), 6}, {gone("a.x", 6, 0), 0}, {link("a.x", 0, 2, 0), 8}}
	for i, step := range steps {
		b.all(step.c)
		b.wantNow(step.c.String(), "a.x")
		if c := b.s.Now("a.x"); c.Version != step.now || c.Gone {
			t.Errorf("step %d: %+v, want the version %d", i, c, step.now)
		}
	}
}

// P19.3: All tells what is there alone, name by name in order, whatever the order in which it came.
func TestAll(t *testing.T) {
	b := made(t, 1<<20)
	if l := b.s.All(); len(l) != 0 {
		t.Errorf("new: %v", l)
	}
	sorted := []string{
		"a/a/c.x", "a/a.x", "a/b/a.x", "a/b-/a.x", "a/z.x", "a-/a.x", "a-.x", "a.x", "a0/a.x", "aa/a.x", "aa.x", "a_.x", "a~/a.x", "a~.x", "a~1.x", "ab/b.x", "b/a.x", "b.x",
	}
	byNames := func(p, q string) int { return slices.Compare(strings.Split(p, "/"), strings.Split(q, "/")) }
	slices.SortFunc(sorted, byNames)
	for _, step := range []int{5, 7, 11, 13} {
		for i := range sorted {
			p := sorted[i*step%len(sorted)]
			b.all(put(p, b.p.now(p), p, 0))
			b.want(p)
		}
		var got []string
		for _, c := range b.s.All() {
			got = append(got, c.Path)
		}
		if !slices.Equal(got, sorted) {
			t.Errorf("All: %v, want %v", got, sorted)
		}
		for i := range sorted {
			p := sorted[i*step%len(sorted)]
			if i%3 > 0 {
				b.all(gone(p, b.p.now(p), 0))
			}
			b.want("without " + p)
		}
	}
	for _, p := range sorted {
		if b.p.now(p) > 0 {
			b.all(gone(p, b.p.now(p), 0))
		}
	}
	if l := b.s.All(); len(l) != 0 {
		t.Errorf("all gone: %v", l)
	}
}

// P19.3: All comes out the same again and again, of many files too.
func TestAllAgain(t *testing.T) {
	b := made(t, 0)
	for n := range 200 {
		b.all(put(strings.Repeat("d/", n%5)+strings.Repeat("e", 1+n%7)+"."+strings.Repeat("x", 1+n/35), 0, "", 0))
	}
	want := b.p.all()
	for range 20 {
		if l := b.s.All(); !slices.Equal(l, want) {
			t.Fatalf("All: %v, want %v", l, want)
		}
	}
}

// P19.4: Feed refuses a cursor or a length that may not be, on any server.
func TestFeedRefused(t *testing.T) {
	empty, some := made(t, 5), somewhat(t)
	lengths := append([]int{4, 5, 14, 15, 16, 17, 18, 32, 4096}, most...)
	for _, cursor := range append([]int{4, 5, 6, 7, 8, 9, 4095, 4096, math.MinInt + 1, math.MaxInt - 1}, most...) {
		for _, length := range lengths {
			empty.wantFeed("new", cursor, length)
			some.wantFeed("somewhat", cursor, length)
		}
	}
	if l, e := empty.s.Feed(0, 16); len(l) != 0 || e != api.OK {
		t.Errorf("Feed(0, 16) of a new one: %v, error %d", l, int(e))
	}
	if l, e := some.s.Feed(7, 16); len(l) != 0 || e != api.OK {
		t.Errorf("Feed(7, 16): %v, error %d", l, int(e))
	}
}

// P19.4: pages of each length tell all changes, each one once.
func TestFeedPages(t *testing.T) {
	b := made(t, 1<<20)
	for n := range 50 {
		p := []string{"a.x", "b.x", "d/c.x"}[n%3]
		if n%7 == 6 {
			b.all(gone(p, b.p.now(p), 0))
		} else {
			b.all(put(p, b.p.now(p), textOf(n), 0))
		}
		for most := range 18 {
			for cursor := range n + 3 {
				b.wantFeed("pages", cursor, most)
			}
		}
	}
	for most := 1; most <= 16; most++ {
		var l []api.Change
		for page, e := b.s.Feed(0, most); len(page) > 0; page, e = b.s.Feed(len(l), most) {
			if e != api.OK || len(page) > most {
				t.Fatalf("Feed(%d, %d): %d changes, error %d", len(l), most, len(page), int(e))
			}
			l = append(l, page...)
		}
		if !slices.Equal(l, b.p.changes(1, 50)) {
			t.Errorf("by %d: %v", most, l)
		}
	}
}

// Rule 5: what was told may be changed by the caller: nothing that is told later is another.
func TestHandedOut(t *testing.T) {
	b := somewhat(t)
	for range 3 {
		l, e := b.s.Feed(0, 16)
		if e != api.OK || len(l) != 7 {
			t.Fatalf("Feed: %v, error %d", l, int(e))
		}
		spoil(l)
		l, _ = b.s.Feed(2, 3)
		// What is behind the list's length is the caller's as well.
		spoil(append(l, api.Change{Path: "other"}))
		l = b.s.All()
		spoil(append(l, api.Change{Path: "other"}))
		c, _ := b.s.Get(1)
		c.Path, c.Size, c.Sum[0] = "other", 5, 99
		b.want("spoilt")
	}
	l := b.s.All()
	had := slices.Clone(l)
	b.all(put("a.x", 5, "later", 0), gone("d/b.x", 6, 0))
	if !slices.Equal(l, had) {
		t.Errorf("told ahead of a change: %v, was %v", l, had)
	}
}

func spoil(l []api.Change) {
	l = l[:cap(l)]
	for i := range l {
		l[i] = api.Change{Version: -1, Path: "spoilt", Gone: true, Size: -1}
	}
}
