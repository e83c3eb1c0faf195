package localtree

import (
	"math"
	"testing"

	"aquifer/api"
	"aquifer/chunk"
	"aquifer/content"
)

// wrongTimes tells numbers that are no times, and no versions either.
func wrongTimes() []int {
	return []int{math.MinInt, math.MinInt + 1, -1 << 40, -1, 1<<40 + 1, 1 << 41, 1 << 62, math.MaxInt}
}

// P18.3: Read and Write of what is not there, of a placeholder, of directories' paths.
func TestReadAndWriteOfOthers(t *testing.T) {
	b := fresh(t)
	b.all(mkdir("d"), place("d/p.x", 5, 3), place("none.x", 2, 0), create("f.x", "abc", 1))
	for _, s := range []string{"", "abc", textOf(4096), textOf(4097)} {
		b.do(api.ErrNone, write("e.x", s))
		b.do(api.ErrNone, write("d/e.x", s))
		b.do(api.ErrNone, write("e/e.x", s))
		b.do(api.ErrHollow, write("d/p.x", s))
		b.do(api.ErrHollow, write("none.x", s))
		b.do(api.ErrDir, write("", s))
		b.do(api.ErrDir, write("d", s))
		b.do(api.ErrDir, write("e", s))
		b.do(api.ErrPath, write("f.x/e", s))
	}
	b.do(api.ErrLong, write("f.x", textOf(4097)))
	b.do(api.ErrLong, write("f.x", textOf(1<<17)))
	for p, e := range map[string]api.Errno{
		"e.x": api.ErrNone, "d/e.x": api.ErrNone, "e/e.x": api.ErrNone, "d/p.x": api.ErrHollow, "none.x": api.ErrHollow,
		"": api.ErrDir, "d": api.ErrDir, "e": api.ErrDir, "f.x/e": api.ErrPath, "f.x": api.OK,
	} {
		b.do(e, read(p))
	}
	b.want("others")
}

// P18.3: what a file has behind Write: other bytes in a new content, no version, opened when it was; the old content is dropped.
func TestWrite(t *testing.T) {
	b := fresh(t)
	b.all(create("other.x", "o", 3), create("a.x", textOf(130), 9))
	id := 2
	for _, s := range []string{"", "x", "y", textOf(64), textOf(65), textOf(4096), textOf(4095), textOf(130), ""} {
		b.all(mark("a.x", 7), write("a.x", s), read("a.x"))
		id++
		n, e := Stat(b.a, "a.x")
		if n != (api.Inode{Kind: 2, Size: len(s), Sum: chunk.Sum(s), Content: id, Opened: 9}) || e != api.OK {
			t.Errorf("%d bytes: %+v, %d", len(s), n, int(e))
		}
		if had, e := content.Have(b.a, id-1); len(had) != 0 || e != api.OK {
			t.Errorf("%d bytes: the old content has %v, %d", len(s), had, int(e))
		}
		if size, e := content.Bytes(b.a); size != len(s)+1 || e != api.OK {
			t.Errorf("%d bytes: all contents have %d, %d", len(s), size, int(e))
		}
	}
	b.want("written")
}

// P18.3: the bytes that a file has change nothing, those of the same size that are others do.
func TestWriteOfTheSame(t *testing.T) {
	b := fresh(t)
	for i, size := range []int{0, 1, 64, 65, 4096} {
		p := "a" + string(rune('0'+i)) + ".x"
		s := textOf(size)
		b.all(create(p, s, 4), mark(p, 7), touch(p, 8))
		was, _ := Stat(b.a, p)
		last := b.p.last
		b.all(write(p, s))
		if n, e := Stat(b.a, p); n != was || e != api.OK || b.p.last != last {
			t.Errorf("%d bytes: %+v, it was %+v", size, n, was)
		}
		if size == 0 {
			continue
		}
		// One byte is another one: the last one, the first one.
		for _, other := range []string{s[:size-1] + "\xff", "\xfe" + s[1:]} {
			b.all(write(p, other), read(p))
			if n, _ := Stat(b.a, p); n.Content == was.Content || n.Version != 0 || n.Opened != 8 {
				t.Errorf("%d bytes, others: %+v, it was %+v", size, n, was)
			}
		}
	}
	b.want("the same")
}

// P18.3: what a file has are its bytes, also where they are not those of its digest.
func TestWriteOfFilledBytes(t *testing.T) {
	b := fresh(t)
	b.all(place("a.x", 5, 3))
	b.put("xyz")
	b.all(fill("a.x", 1), read("a.x"), write("a.x", "xyz"))
	if n, _ := Stat(b.a, "a.x"); n.Version != 5 || n.Content != 1 || n.Sum != someSum("a.x") {
		t.Errorf("%+v", n)
	}
	b.all(write("a.x", "abc"), read("a.x"))
	if n, _ := Stat(b.a, "a.x"); n.Version != 0 || n.Content != 2 || n.Sum != chunk.Sum("abc") {
		t.Errorf("%+v", n)
	}
}

// P18.2, P18.3: where no number is left for a content, Create and Write are refused, change nothing, and spoil nothing.
func TestNoNumberLeft(t *testing.T) {
	s := made(t, 100)
	b := paired(t, s, plain{last: 1<<40 - 2})
	wantE(t, "the row of the greatest number", b.a.Put(api.TbNext, parts(1), []api.Field{{Tag: 1, N: 1<<40 - 2}}), api.OK)
	b.all(create("a.x", textOf(100), 1), create("b.x", "", 1))
	for _, x := range []string{"", "x", textOf(4096)} {
		b.do(api.ErrFull, create("c.x", x, 1))
		b.do(api.ErrFull, write("a.x", x))
	}
	b.do(api.ErrArg, create("c.x", "", -1))
	b.do(api.ErrLong, write("a.x", textOf(4097)))
	b.all(write("a.x", textOf(100)), write("b.x", ""), read("a.x"), mark("a.x", 1), empty("a.x"), mkdir("d"), rename("b.x", "d/b.x"))
	b.want("no number left")
	b = paired(t, s, b.commit())
	b.want("committed")
}
