package localtree

import (
	"slices"
	"strings"
	"testing"

	"aquifer/api"
	"aquifer/chunk"
)

// TestExample is the chapter's own.
func TestExample(t *testing.T) {
	a := begun(t, made(t, 20))
	wantE(t, "Mkdir", Mkdir(a, "a"), api.OK)
	wantE(t, "Create", Create(a, "a/b.c", "xy", 1), api.OK)
	wantE(t, "Rename", Rename(a, "a", "d"), api.OK)
	if s, e := Read(a, "d/b.c"); s != "xy" || e != api.OK {
		t.Errorf("Read: %q, %d", s, int(e))
	}
	want := api.Item{Path: "d/b.c", Node: api.Inode{Kind: api.PaFile, Size: 2, Sum: chunk.Sum("xy"), Content: 1, Opened: 1}}
	if l, e := Files(a); !slices.Equal(l, []api.Item{want}) || e != api.OK {
		t.Errorf("Files: %v, %d", l, int(e))
	}
}

// P18.1: a tree where nothing is but the root.
func TestNothingThere(t *testing.T) {
	b := fresh(t)
	root, e := Stat(b.a, "")
	if root != (api.Inode{Kind: api.PaDir}) || e != api.OK {
		t.Errorf("Stat of the root: %+v, %d", root, int(e))
	}
	if l, e := List(b.a, ""); len(l) != 0 || e != api.OK {
		t.Errorf("List of the root: %v, %d", l, int(e))
	}
	if l, e := Files(b.a); len(l) != 0 || e != api.OK {
		t.Errorf("Files: %v, %d", l, int(e))
	}
	if n, e := Hydrated(b.a); n != 0 || e != api.OK {
		t.Errorf("Hydrated: %d, %d", n, int(e))
	}
	for _, p := range []string{"a", "a.b", "a/b", "a/b.c"} {
		b.do(api.ErrNone, stat(p))
	}
	b.do(api.ErrNone, list("a"))
	b.do(api.ErrNone, list("a/b"))
	b.do(api.ErrFile, list("a.b"))
	b.want("nothing")
}

// wantNames fails, if List of a directory tells other names.
func (b *pair) wantNames(dir string, want ...string) {
	b.t.Helper()
	b.all(list(dir))
	if l, e := List(b.a, dir); !slices.Equal(l, want) || e != api.OK {
		b.t.Errorf("List(%q): %q, %d; want %q", dir, l, int(e), want)
	}
}

// P18.1: what lies in a directory, and not deeper, in order: with names that begin alike, directories and files side by side, placeholders among them.
func TestList(t *testing.T) {
	b := fresh(t)
	b.all(mkdir("a"))
	b.wantNames("a")
	b.wantNames("", "a")
	b.all(mkdir("a/b"), create("a/b/c.x", "c", 1))
	b.wantNames("a", "b")
	b.wantNames("a/b", "c.x")
	b.wantNames("", "a")
	b.all(
		mkdir("aa"), mkdir("a-"), create("a.x", "", 0), create("a.xx", "x", 0), create("a-.x", "x", 0), mkdir("b"), mkdir("0"), mkdir("~"), mkdir("_"),
		create("aa/a.x", "x", 0), mkdir("a/ba"), mkdir("a/b-"), create("a/b.x", "b", 5), place("a/b-/deep/e.r", 3, 70), place("z.z", 1, 0),
	)
	b.wantNames("", "0", "_", "a", "a-", "a-.x", "a.x", "a.xx", "aa", "b", "z.z", "~")
	b.wantNames("a", "b", "b-", "b.x", "ba")
	b.wantNames("aa", "a.x")
	b.wantNames("a-")
	b.wantNames("a/b-", "deep")
	b.wantNames("a/b-/deep", "e.r")
	b.do(api.ErrFile, list("a.x"))
	b.do(api.ErrFile, list("z.z"))
	b.do(api.ErrFile, list("a/none.x"))
	b.do(api.ErrNone, list("aaa"))
	b.do(api.ErrNone, list("a/x"))
	b.do(api.ErrNone, list("a/b/c"))
	b.want("many")
}

// P18.1: Files in the order of the paths, and Hydrated, with placeholders and files of no byte.
func TestFilesAndHydrated(t *testing.T) {
	b := fresh(t)
	wantFiles := func(size int, want ...string) {
		t.Helper()
		var l []string
		files, e := Files(b.a)
		for _, x := range files {
			n, e := Stat(b.a, x.Path)
			if n != x.Node || e != api.OK {
				t.Errorf("%q: %+v and %+v, %d", x.Path, x.Node, n, int(e))
			}
			l = append(l, x.Path)
		}
		if !slices.Equal(l, want) || e != api.OK {
			t.Errorf("Files: %q, %d; want %q", l, int(e), want)
		}
		if n, e := Hydrated(b.a); n != size || e != api.OK {
			t.Errorf("Hydrated: %d, %d; want %d", n, int(e), size)
		}
		b.want(want)
	}
	b.all(mkdir("d"), mkdir("d/e"))
	wantFiles(0)
	b.all(create("b.x", "", 1))
	wantFiles(0, "b.x")
	b.all(place("d/e/a.x", 1, 4096), place("d/f.x", 2, 0))
	wantFiles(0, "b.x", "d/e/a.x", "d/f.x")
	b.all(create("d-.x", textOf(100), 1), create("d/e/b.x", textOf(4096), 1), create("d.x", "y", 1), create("c.x", "", 1))
	wantFiles(4197, "b.x", "c.x", "d/e/a.x", "d/e/b.x", "d/f.x", "d-.x", "d.x")
	b.all(mark("d-.x", 1), mark("d/e/b.x", 5), empty("d/e/b.x"))
	wantFiles(101, "b.x", "c.x", "d/e/a.x", "d/e/b.x", "d/f.x", "d-.x", "d.x")
	b.all(write("c.x", textOf(65)), remove("d.x"))
	wantFiles(165, "b.x", "c.x", "d/e/a.x", "d/e/b.x", "d/f.x", "d-.x")
}

// P18.2: Mkdir of what is there, of what has no parent, of files' paths and of what is no path.
func TestMkdir(t *testing.T) {
	b := fresh(t)
	b.do(api.ErrExist, mkdir(""))
	b.do(api.ErrNone, mkdir("a/b"))
	b.do(api.ErrNone, mkdir("a/b/c"))
	b.all(mkdir("a"))
	b.do(api.ErrExist, mkdir("a"))
	b.do(api.ErrNone, mkdir("a/b/c"))
	b.all(mkdir("a/b"), mkdir("a/b/c"), mkdir("b"))
	b.do(api.ErrExist, mkdir("a/b"))
	b.do(api.ErrExist, mkdir("a/b/c"))
	b.do(api.ErrFile, mkdir("a.x"))
	b.do(api.ErrFile, mkdir("none/a.x"))
	b.all(create("a.x", "x", 1))
	b.do(api.ErrFile, mkdir("a.x"))
	b.do(api.ErrPath, mkdir("a.x/b"))
	b.do(api.ErrPath, mkdir("A"))
	if n, e := Stat(b.a, "a/b"); n != (api.Inode{Kind: api.PaDir}) || e != api.OK {
		t.Errorf("Stat: %+v, %d", n, int(e))
	}
	deep := ""
	for range 7 {
		deep += "d/"
		b.all(mkdir(strings.TrimSuffix(deep, "/")))
	}
	b.all(mkdir(deep + "d"))
	b.do(api.ErrFull, mkdir(deep+"d/d"))
	b.want("deep")
}

// P18.2: Create of what is there, of what has no parent, of directories' paths and of what is no path.
func TestCreate(t *testing.T) {
	b := fresh(t)
	b.do(api.ErrDir, create("", "x", 1))
	b.do(api.ErrDir, create("a", "x", 1))
	b.do(api.ErrDir, create("a/b", textOf(4097), -1))
	b.do(api.ErrNone, create("a/b.x", "x", 1))
	b.all(mkdir("a"), create("a/b.x", "x", 1), create("b.x", "x", 2))
	b.do(api.ErrExist, create("a/b.x", "x", 1))
	b.do(api.ErrExist, create("b.x", "other", 5))
	b.all(place("p/q.x", 3, 9))
	b.do(api.ErrExist, create("p/q.x", "x", 1))
	b.do(api.ErrDir, create("a", "x", 1))
	b.do(api.ErrPath, create("b.x/c.x", "x", 1))
	b.do(api.ErrNone, create("a/c/b.x", "x", 1))
	want := api.Inode{Kind: api.PaFile, Size: 1, Sum: chunk.Sum("x"), Content: 2, Opened: 2}
	if n, e := Stat(b.a, "b.x"); n != want || e != api.OK {
		t.Errorf("Stat: %+v, %d", n, int(e))
	}
	b.want("some")
}

// P18.2: files of no byte, about the edges of chunks, of MaxSize bytes and one more.
func TestCreateOfSizes(t *testing.T) {
	b := fresh(t)
	for i, size := range []int{0, 1, 63, 64, 65, 128, 4095, 4096} {
		p := "f.x" + strings.Repeat("0", i)
		b.all(create(p, textOf(size), i), read(p))
		if s, e := Read(b.a, p); s != textOf(size) || e != api.OK {
			t.Errorf("Read of %d bytes: %d, %d", size, len(s), int(e))
		}
		n, e := Stat(b.a, p)
		if n != (api.Inode{Kind: 2, Size: size, Sum: chunk.Sum(textOf(size)), Content: i + 1, Opened: i}) || e != api.OK {
			t.Errorf("Stat of %d bytes: %+v, %d", size, n, int(e))
		}
		for _, size := range []int{4097, 4160, 1 << 17} {
			b.do(api.ErrLong, create("e.x", textOf(size), 1))
		}
	}
	b.want("all sizes")
}

// P18.2: stamps at the edges, and the errors of which the chapter names the first one first.
func TestCreateAtTimes(t *testing.T) {
	b := fresh(t)
	b.all(mkdir("d"), create("d/there.x", "x", 1))
	for _, now := range wrongTimes() {
		b.do(api.ErrArg, create("a.x", "x", now))
		b.do(api.ErrArg, create("a.x", "", now))
		b.do(api.ErrLong, create("a.x", textOf(4097), now))
		b.do(api.ErrNone, create("e/a.x", textOf(4097), now))
		b.do(api.ErrExist, create("d/there.x", textOf(4097), now))
		b.do(api.ErrDir, create("e/a", textOf(4097), now))
		b.do(api.ErrPath, create("e.x/a", textOf(4097), now))
	}
	for i, now := range []int{0, 1, 1<<40 - 1, 1 << 40} {
		p := "a.x" + strings.Repeat("0", i)
		b.all(create(p, "x", now))
		if n, _ := Stat(b.a, p); n.Opened != now || n.Version != 0 {
			t.Errorf("opened at %d: %+v", now, n)
		}
	}
	b.want("all times")
}
