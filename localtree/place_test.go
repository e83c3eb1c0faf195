package localtree

import (
	"math"
	"testing"

	"aquifer/api"
	"aquifer/chunk"
	"aquifer/content"
)

// P18.5: Place where nothing is, where its directories are not there, or a part of them.
func TestPlace(t *testing.T) {
	b := fresh(t)
	a := api.Arch{Version: 7, Size: 130, Sum: someSum("a")}
	want := api.Inode{Kind: api.PaFile, Size: 130, Sum: a.Sum, Version: 7}
	b.all(mkdir("d"), mkdir("d/e"), create("d/e/f.x", "f", 3))
	for _, p := range []string{"a.x", "d/a.x", "d/e/f/g/a.x", "n/o/p/q/r/s/t/a.x", "n/o/b.x", "n/p/a.x"} {
		b.all(placeOf(p, a))
		if n, e := Stat(b.a, p); n != want || e != api.OK {
			t.Errorf("%q: %+v, %d", p, n, int(e))
		}
		b.do(api.ErrHollow, read(p))
	}
	for _, dir := range []string{"d/e/f", "d/e/f/g", "n", "n/o", "n/o/p/q/r/s/t", "n/p"} {
		if n, e := Stat(b.a, dir); n != (api.Inode{Kind: api.PaDir}) || e != api.OK {
			t.Errorf("%q: %+v, %d", dir, n, int(e))
		}
	}
	b.do(api.ErrDir, placeOf("", a))
	b.do(api.ErrDir, placeOf("d", a))
	b.do(api.ErrDir, placeOf("none/none", a))
	b.do(api.ErrPath, placeOf("a.x/b.x", a))
	b.do(api.ErrFull, placeOf("n/o/p/q/r/s/t/u/a.x", a))
	b.want("placed")
}

// P18.5: Place at what is there: a file, whose content is dropped; a placeholder, that it is no more.
func TestPlaceOver(t *testing.T) {
	b := fresh(t)
	b.all(create("a.x", textOf(200), 9), create("b.x", "", 9), mark("b.x", 3), touch("b.x", 10), place("d/p.x", 5, 70), touch("d/p.x", 11))
	for i, p := range []string{"a.x", "b.x", "d/p.x"} {
		a := api.Arch{Version: 20 + i, Size: 10 + i, Sum: someSum("over")}
		b.all(placeOf(p, a))
		if n, e := Stat(b.a, p); n != (api.Inode{Kind: 2, Size: a.Size, Sum: a.Sum, Version: a.Version}) || e != api.OK {
			t.Errorf("%q: %+v, %d", p, n, int(e))
		}
		b.do(api.ErrHollow, read(p))
		if size, e := content.Bytes(b.a); size != 0 || e != api.OK {
			t.Errorf("%q: %d bytes are left, %d", p, size, int(e))
		}
	}
	b.want("over")
}

// P18.5: what may not be archived, in each way, at what is there, or not; and what may be, at the edges.
func TestPlaceOfWhatMayNotBe(t *testing.T) {
	b := fresh(t)
	b.all(create("a.x", "a", 1), place("d/p.x", 5, 70))
	sum := someSum("x")
	for _, version := range []int{math.MinInt, -1, 0, 1, 2, 1 << 40, 1<<40 + 1, math.MaxInt} {
		for _, size := range []int{math.MinInt, -1, 0, 1, 4096, 4097, math.MaxInt} {
			want := api.OK
			if version < 1 || version > 1<<40 || size < 0 || size > 4096 {
				want = api.ErrArg
			}
			a := api.Arch{Version: version, Size: size, Sum: sum}
			for _, p := range []string{"new/e.x", "a.x", "d/p.x"} {
				b.do(want, placeOf(p, a))
			}
			b.do(api.ErrDir, placeOf("d", a))
			b.do(api.ErrPath, placeOf("d.x/p.x", a))
		}
	}
	b.want("the last ones")
}

// P18.5: Fill of what is not there, of what is not hollow, of directories' paths, with numbers that no content has.
func TestFillRefused(t *testing.T) {
	b := fresh(t)
	b.all(create("a.x", "abc", 1), create("e.x", "", 1), mkdir("d"), place("d/p.x", 5, 130), place("d/none.x", 5, 0))
	id := b.put(textOf(130))
	for _, n := range []int{math.MinInt, -1, 0, 1, 2, id, id + 1, 1 << 40, math.MaxInt} {
		b.do(api.ErrNone, fill("b.x", n))
		b.do(api.ErrNone, fill("none/b.x", n))
		b.do(api.ErrState, fill("a.x", n))
		b.do(api.ErrState, fill("e.x", n))
		b.do(api.ErrDir, fill("d", n))
		b.do(api.ErrDir, fill("", n))
		b.do(api.ErrPath, fill("a.x/b.x", n))
		if n < 1 || n > id {
			b.do(api.ErrArg, fill("d/p.x", n))
			b.do(api.ErrArg, fill("d/none.x", n))
		}
	}
	b.all(fill("d/p.x", id))
	b.do(api.ErrState, fill("d/p.x", id))
	b.want("filled")
}

// P18.5: a content of fewer chunks than the file's size asks, or with one of another length.
func TestFillWithPieces(t *testing.T) {
	b := fresh(t)
	b.all(place("a.x", 5, 130), touch("a.x", 6))
	id := b.put("")
	b.do(api.ErrHollow, fill("a.x", id))
	for _, x := range []struct {
		i, size int
		want    api.Errno
	}{
		{1, 64, api.ErrHollow}, {2, 2, api.ErrHollow}, {63, 5, api.ErrHollow}, {0, 63, api.ErrHollow}, {2, 3, api.ErrHollow},
		{0, 64, api.ErrHollow}, {2, 1, api.ErrHollow}, {2, 64, api.ErrHollow}, {2, 2, api.OK},
	} {
		b.lay(id, x.i, textOf(x.size))
		b.do(x.want, fill("a.x", id))
	}
	b.all(read("a.x"))
	n, e := Stat(b.a, "a.x")
	if n != (api.Inode{Kind: 2, Size: 130, Sum: someSum("a.x"), Content: id, Version: 5, Opened: 6}) || e != api.OK {
		t.Errorf("%+v, %d", n, int(e))
	}
	// The chunk behind the file's bytes goes with its content.
	b.all(empty("a.x"))
	if have, e := content.Have(b.a, id); len(have) != 0 || e != api.OK {
		t.Errorf("left: %v, %d", have, int(e))
	}
	b.do(api.ErrHollow, fill("a.x", id))
	b.want("emptied")
}

// P18.5: Fill of all sizes about the edges, with the bytes that there are.
func TestFillOfSizes(t *testing.T) {
	b := fresh(t)
	for _, size := range []int{0, 1, 63, 64, 65, 128, 4095, 4096} {
		s := textOf(size)
		b.all(placeOf("d/a.x", api.Arch{Version: 3, Size: size, Sum: chunk.Sum(s)}))
		if size > 0 {
			b.do(api.ErrHollow, fill("d/a.x", b.put(s[1:])))
			b.do(api.ErrHollow, fill("d/a.x", b.put("")))
		}
		id := b.put(s)
		b.all(fill("d/a.x", id), read("d/a.x"))
		if had, e := Read(b.a, "d/a.x"); had != s || e != api.OK {
			t.Errorf("%d bytes: %d, %d", size, len(had), int(e))
		}
		if n, e := Stat(b.a, "d/a.x"); n.Content != id || n.Version != 3 || n.Opened != 0 || e != api.OK {
			t.Errorf("%d bytes: %+v, %d", size, n, int(e))
		}
	}
}

// P18.5: Empty of a placeholder, of a file without a version, of one with a version, of others.
func TestEmpty(t *testing.T) {
	b := fresh(t)
	b.all(mkdir("d"), create("d/a.x", textOf(300), 3), create("n.x", "", 4), place("p.x", 5, 70))
	b.do(api.ErrNone, empty("none.x"))
	b.do(api.ErrNone, empty("none/none.x"))
	b.do(api.ErrDir, empty(""))
	b.do(api.ErrDir, empty("d"))
	b.do(api.ErrDir, empty("none"))
	b.do(api.ErrPath, empty("d.x/d"))
	b.do(api.ErrState, empty("p.x"))
	b.do(api.ErrState, empty("d/a.x"))
	b.do(api.ErrState, empty("n.x"))
	b.all(mark("d/a.x", 1), mark("n.x", 1<<40))
	for _, p := range []string{"d/a.x", "n.x"} {
		was, _ := Stat(b.a, p)
		b.all(empty(p))
		was.Content = 0
		if n, e := Stat(b.a, p); n != was || e != api.OK {
			t.Errorf("%q: %+v, %d; want %+v", p, n, int(e), was)
		}
		b.do(api.ErrHollow, read(p))
		b.do(api.ErrHollow, write(p, "x"))
		b.do(api.ErrState, empty(p))
	}
	if size, e := content.Bytes(b.a); size != 0 || e != api.OK {
		t.Errorf("%d bytes are left, %d", size, int(e))
	}
	b.want("emptied")
}

// P18.5: Mark and Touch of a file and of a placeholder, at the edges, and of others.
func TestMarkAndTouch(t *testing.T) {
	b := fresh(t)
	b.all(mkdir("d"), create("d/a.x", "a", 3), place("p.x", 5, 70))
	for _, n := range append(wrongTimes(), 0, 1, 2, 1<<40-1, 1<<40) {
		for _, of := range []func(p string, n int) call{mark, touch} {
			b.do(api.ErrNone, of("none.x", n))
			b.do(api.ErrNone, of("none/none.x", n))
			b.do(api.ErrDir, of("", n))
			b.do(api.ErrDir, of("d", n))
			b.do(api.ErrPath, of("d.x/d", n))
		}
		for _, p := range []string{"d/a.x", "p.x"} {
			was, _ := Stat(b.a, p)
			markE, touchE := api.OK, api.OK
			if n < 1 || n > 1<<40 {
				markE = api.ErrArg
			}
			if n < 0 || n > 1<<40 {
				touchE = api.ErrArg
			}
			b.do(markE, mark(p, n))
			if markE == api.OK {
				was.Version = n
			}
			b.do(touchE, touch(p, n))
			if touchE == api.OK {
				was.Opened = n
			}
			if is, e := Stat(b.a, p); is != was || e != api.OK {
				t.Errorf("%q, %d: %+v, %d; want %+v", p, n, is, int(e), was)
			}
		}
	}
	b.want("marked")
}
