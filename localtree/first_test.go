package localtree

import (
	"fmt"
	"math"
	"strings"
	"testing"

	"aquifer/api"
	"aquifer/table"
)

// noPaths tells a text for each error that path.Kind tells, and that error.
func noPaths() map[string]api.Errno {
	long := strings.Repeat("a", 97)
	return map[string]api.Errno{
		long: api.ErrLong, strings.Repeat("a/", 60): api.ErrLong, strings.Repeat("A", 97): api.ErrLong, strings.Repeat("a", 1<<16): api.ErrLong,
		"A": api.ErrPath, "/": api.ErrPath, "a/": api.ErrPath, "/a": api.ErrPath, "a//b": api.ErrPath, ".": api.ErrPath, "..": api.ErrPath, "a/..": api.ErrPath,
		"a.b.c": api.ErrPath, "a.": api.ErrPath, ".a": api.ErrPath, "a b": api.ErrPath, "\x00": api.ErrPath, "\xff": api.ErrPath, "a.b/c": api.ErrPath, "a.b/c.d": api.ErrPath,
		long[:25]: api.ErrPath, "a/b/c/d/e/f/g/h.x/i": api.ErrPath,
		"a/b/c/d/e/f/g/h/i": api.ErrFull, "a/b/c/d/e/f/g/h/i.x": api.ErrFull,
	}
}

// aboutPaths tells each call that is about a path, with that one, and others beside it that are right or wrong.
func aboutPaths(p string) []call {
	l := []call{stat(p), list(p), mkdir(p), read(p), remove(p), empty(p)}
	for _, n := range []int{math.MinInt, -1, 0, 1, 1 << 40, 1<<40 + 1, math.MaxInt} {
		l = append(l, create(p, "x", n), create(p, textOf(4097), n), fill(p, n), mark(p, n), touch(p, n), place(p, n, 5), place(p, 3, n))
	}
	for _, s := range []string{"", "x", "y", textOf(4096), textOf(4097)} {
		l = append(l, create(p, s, 3), write(p, s))
	}
	for _, to := range []string{"", "a", "a/new", "new", "new.x", "a.x", "none/new.x", "A", strings.Repeat("a", 97)} {
		l = append(l, rename(p, to))
	}
	return l
}

// everyCall tells all calls, with paths that may be there or not, and with what is no path.
func everyCall() []call {
	l := []call{files(), hydrated()}
	for _, p := range []string{"", "a", "a.x", "a/b", "a/b.x", "none", "none.x", "none/new", "none/new.x"} {
		l = append(l, aboutPaths(p)...)
	}
	for p := range noPaths() {
		l = append(l, aboutPaths(p)...)
	}
	return l
}

// wantEvery fails, if any call of a transaction tells something else than that error.
func wantEvery(t *testing.T, what string, a *table.Txn, want api.Errno) {
	t.Helper()
	for _, c := range everyCall() {
		if r := c.of(a); !same(r, answer{e: want}) {
			t.Errorf("%s: %v: %.200s, want %d", what, c, fmt.Sprintf("%+v", r), int(want))
		}
	}
}

// All calls tell ErrNil first: of no transaction, of one that Begin did not make, of one that has ended.
func TestNoTransaction(t *testing.T) {
	wantEvery(t, "nil", nil, api.ErrNil)
	wantEvery(t, "plain", &table.Txn{}, api.ErrNil)
	s := made(t, 60)
	b := paired(t, s, plain{})
	b.all(mkdir("a"), create("a.x", "x", 1), create("a/b.x", "y", 1))
	p := b.commit()
	wantEvery(t, "committed", b.a, api.ErrNil)
	b = paired(t, s, p)
	b.all(write("a.x", "z"))
	b.a.Abort()
	wantEvery(t, "aborted", b.a, api.ErrNil)
	c := paired(t, s, p)
	wantEvery(t, "aborted, and another one is open", b.a, api.ErrNil)
	c.want("the other one")
}

// All calls tell ErrDown next, whatever their arguments are.
func TestWithoutPower(t *testing.T) {
	d := aDisk(t, madeLog+8*60)
	s := opened(t, d)
	b := paired(t, s, plain{})
	b.all(mkdir("a"), create("a.x", "x", 1), create("a/b.x", "y", 1), place("a/p.x", 3, 70))
	p := b.commit()
	wantE(t, "Checkpoint", s.Checkpoint(), api.OK)
	b = paired(t, s, p)
	wantE(t, "Off", d.Off(), api.OK)
	wantEvery(t, "without power", b.a, api.ErrDown)
	wantE(t, "On", d.On(nil), api.OK)
	s = opened(t, d)
	b = paired(t, s, p)
	b.all(write("a.x", "z"))
	wantE(t, "Off", d.Off(), api.OK)
	wantE(t, "Commit", b.a.Commit(), api.ErrDown)
	wantEvery(t, "lost", b.a, api.ErrDown)
	wantE(t, "On", d.On(nil), api.OK)
	wantEvery(t, "lost, and the power came back", b.a, api.ErrDown)
	b = paired(t, opened(t, d), p)
	b.want("opened anew")
}

// All calls about paths tell path.Kind's error of what is no path, whatever else is wrong.
func TestNoPaths(t *testing.T) {
	b := fresh(t)
	b.all(mkdir("a"), create("a.x", "x", 1), create("a/b.x", "y", 1))
	for p, want := range noPaths() {
		if _, e := plainKind(p); e != want {
			t.Fatalf("%q: %d", p, int(e))
		}
		for _, c := range aboutPaths(p) {
			b.do(want, c)
		}
		for _, from := range []string{"", "a", "none", "a.x", "none.x"} {
			b.do(want, rename(from, p))
		}
	}
	b.want("no paths")
}

// All calls about files tell ErrDir of a directory's path, and those about directories ErrFile of a file's, be it there or not.
func TestOtherKinds(t *testing.T) {
	b := fresh(t)
	b.all(mkdir("a"), create("a.x", "x", 1), create("a/b.x", "y", 1), place("a/p.x", 1, 1))
	for _, p := range []string{"", "a", "a/b", "none", "none/new", "none/none/new"} {
		for _, c := range aboutPaths(p) {
			if !strings.Contains(" Stat List Mkdir Rename Remove ", " "+c.op+" ") {
				b.do(api.ErrDir, c)
			}
		}
	}
	for _, p := range []string{"a.x", "a/b.x", "a/p.x", "none.x", "a/none.x", "none/none.x"} {
		b.do(api.ErrFile, list(p))
		b.do(api.ErrFile, mkdir(p))
	}
	b.want("other kinds")
}

// P18.1 to P18.5: each call with each choice of arguments, in a tree of everything: what it tells, and does, and of two errors the one that is named first.
func TestEveryCall(t *testing.T) {
	s := made(t, 60)
	b := paired(t, s, plain{})
	b.all(mkdir("a"), create("a.x", "x", 1), create("a/b.x", "y", 1), mark("a/b.x", 5))
	id := b.put(textOf(5))
	p := b.commit()
	told := map[string]int{}
	for _, c := range everyCall() {
		b := paired(t, s, p)
		e := b.any(c)
		told[c.op+" "+e.Error()]++
		if !c.looks() && e == api.OK {
			b.want(c, id)
		}
		b.a.Abort()
	}
	for _, x := range []string{
		"Stat ok", "Stat none", "List ok", "List none", "Mkdir ok", "Mkdir exist", "Mkdir none", "Create ok", "Create exist", "Create none", "Create long", "Create argument",
		"Read ok", "Read none", "Write ok", "Write none", "Write long", "Rename ok", "Rename argument", "Rename none", "Rename exist", "Remove ok", "Remove argument", "Remove none", "Remove busy",
		"Place ok", "Place argument", "Fill none", "Fill state", "Empty ok", "Empty none", "Empty state", "Mark ok", "Mark none", "Mark argument", "Touch ok", "Touch none", "Touch argument",
	} {
		if told[x] == 0 {
			t.Errorf("never told: %s", x)
		}
	}
}
