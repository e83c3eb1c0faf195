package localtree

import (
	"fmt"
	"strings"
	"testing"

	"aquifer/api"
	"aquifer/table"
)

// try makes a call in a store that may have no room for it, and tells whether it was done. One that was refused has changed nothing, and spoilt its transaction.
func (b *pair) try(c call) bool {
	b.t.Helper()
	after := b.p.copied()
	told := after.tell(c)
	r := c.of(b.a)
	if r.e != api.ErrFull || told.e != api.OK {
		b.p = after
		if !same(r, told) {
			b.t.Fatalf("%v: %d, want %d", c, int(r.e), int(told.e))
		}
		b.wantRows(c)
		return true
	}
	if !same(r, answer{e: api.ErrFull}) {
		b.t.Errorf("%v: %+v", c, r)
	}
	// Where a content goes ahead of the one that comes, there may be no room for it any more: the chapter leaves open what a spoilt transaction sees.
	if c.op != "Write" {
		b.want(c)
	}
	wantE(b.t, "Commit of a spoilt one", b.a.Commit(), api.ErrState)
	return false
}

// filled tells a store in which there is no room for one directory more, and what it has.
func filled(t *testing.T, count int) (*table.Store, plain) {
	t.Helper()
	s := made(t, count)
	b := paired(t, s, plain{})
	b.all(mkdir("a"), mkdir("a/b"), mkdir("c"), create("a/f.x", textOf(70), 1), create("e.x", "", 2), place("a/b/p.x", 3, 64))
	for n, full := 0, 0; full < 6; n++ {
		b = paired(t, s, b.commit())
		dir := []string{"a/", "a/b/", "c/"}[n%3]
		name := fmt.Sprint(n) + strings.Repeat("n", n*7%15)
		calls := []call{create(dir+name+".x", textOf(n*37%150), n), place(dir+name+".x", n+1, n), mkdir(dir + name)}
		if full > 0 {
			calls = []call{mkdir(dir + fmt.Sprint(n))}
		}
		full++
		for _, c := range calls {
			if b.try(c) {
				full = 0
				break
			}
			b = paired(t, s, b.p)
		}
	}
	return s, b.commit()
}

// inFull tells calls about a path of a store that is full, and beside it.
func inFull(q string, i, id int) []call {
	return []call{
		stat(q), list(q), read(q), files(), hydrated(), remove(q), empty(q), fill(q, id),
		touch(q, 1<<40), mark(q, 1<<40), touch(q, -1), mark(q, 0),
		place(q, 1<<40, 4096), place(q+"/new/p.x", 1, 64), place("c/p"+fmt.Sprint(i)+".x", 1, 64),
		write(q, ""), write(q, textOf(i)), write(q, textOf(i*20)), write(q, textOf(4097)),
		mkdir(q), mkdir(q + "0"), create(q, "", 0), create(q+"0", "", 0), create("c/"+fmt.Sprint(i)+".x", textOf(i), 1<<40),
		rename(q, "new"), rename(q, "c/"+strings.Repeat("n", 24)), rename(q, "new.x"), rename(q, "a/"+strings.Repeat("n", 22)+".x"), rename(q, "a"),
	}
}

// All calls in a store that is full: those that change nothing are told as ever, one that there is no room for tells ErrFull, and nothing of it is there behind it.
func TestFullStore(t *testing.T) {
	refused, done := map[string]int{}, map[string]int{}
	for _, count := range []int{7, 9, 15} {
		s, p := filled(t, count)
		b := paired(t, s, p)
		b.want(count)
		id := b.p.last
		b.a.Abort()
		for i, q := range p.paths() {
			for _, c := range inFull(q, i, id) {
				b := paired(t, s, p)
				if !b.try(c) {
					refused[c.op]++
					continue
				}
				done[c.op]++
				b.a.Abort()
			}
		}
		b = paired(t, s, p)
		b.want(fmt.Sprint(count, ", behind all"))
	}
	for _, op := range []string{"Mkdir", "Create", "Write", "Rename", "Place", "Mark", "Touch"} {
		if refused[op] == 0 || done[op] == 0 {
			t.Errorf("%s: refused %d times, done %d times", op, refused[op], done[op])
		}
	}
	if refused["Remove"]+refused["Empty"] != 0 {
		t.Errorf("what takes away was refused: %v", refused)
	}
}

// Where a store is full there is room again behind Remove and Empty: a file that is written anew has the room that it had.
func TestFullAndRemove(t *testing.T) {
	s := made(t, 40)
	b := paired(t, s, plain{})
	b.all(create("a.x", textOf(4096), 1))
	p := b.commit()
	b = paired(t, s, p)
	if b.try(create("b.x", textOf(4096), 1)) {
		t.Fatal("there is room")
	}
	for i := range 5 {
		b = paired(t, s, p)
		b.all(write("a.x", textOf(4091+i)), read("a.x"))
		p = b.commit()
	}
	b = paired(t, s, p)
	b.all(mark("a.x", 3), empty("a.x"), create("b.x", textOf(4096), 1))
	b = paired(t, s, b.commit())
	b.want("emptied")
	b.all(remove("b.x"), create("c.x", textOf(4096), 1))
	b = paired(t, s, b.commit())
	b.want("removed")
}

// A transaction of too many pages: Commit refuses it whole.
func TestTooMuch(t *testing.T) {
	s := made(t, 900)
	b := paired(t, s, plain{})
	b.all(mkdir("d"), create("d/a.x", "a", 1))
	p := b.commit()
	b = paired(t, s, p)
	for i := range 10 {
		b.all(create(fmt.Sprint("d/", i, ".x"), textOf(4096), 1))
	}
	b.all(rename("d", "e"))
	wantE(t, "Commit of too much", b.a.Commit(), api.ErrFull)
	b = paired(t, s, p)
	b.want("behind too much")
}
