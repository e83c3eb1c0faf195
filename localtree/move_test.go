package localtree

import (
	"fmt"
	"maps"
	"slices"
	"strings"
	"testing"

	"aquifer/api"
	"aquifer/content"
)

// grown tells a tree of many levels, with placeholders and files.
func grown(t *testing.T) *pair {
	t.Helper()
	b := fresh(t)
	b.all(
		mkdir("a"), mkdir("a/b"), mkdir("a/b/c"), mkdir("a/bb"), mkdir("ab"), mkdir("a-"), mkdir("z"),
		create("a/f.x", textOf(100), 3), create("a/b/f.x", "", 4), create("a/b/c/f.x", textOf(64), 5), create("ab/f.x", "beside", 6),
		place("a/b/p.x", 7, 130), place("a/q/r/s.x", 8, 0), create("a.x", "ax", 1), create("a-/g.x", "g", 2),
		mark("a/b/c/f.x", 9), touch("a/b/p.x", 12),
	)
	return b
}

// P18.4: a directory of many levels goes, with all that lies below it, as it was; what begins with its name stays; and back.
func TestRenameThereAndBack(t *testing.T) {
	b := grown(t)
	was := b.p.copied()
	for _, to := range []string{"b", "ab/a", "a-/x", "aa", "a0", "z/y", strings.Repeat("l", 24)} {
		b.all(rename("a", to))
		b.want(to)
		b.do(api.ErrNone, stat("a"))
		b.do(api.ErrNone, stat("a/b"))
		for q, n := range was.nodes {
			if moved := to + strings.TrimPrefix(q, "a"); lies("a", q) && b.p.nodes[moved] != n {
				t.Errorf("%q is %+v at %q, it was %+v", q, b.p.nodes[moved], moved, n)
			}
		}
		if s, e := Read(b.a, to+"/b/c/f.x"); s != textOf(64) || e != api.OK {
			t.Errorf("Read: %d bytes, %d", len(s), int(e))
		}
		b.all(rename(to, "a"))
		if !maps.Equal(b.p.nodes, was.nodes) || !maps.Equal(b.p.has, was.has) {
			t.Errorf("%q and back is not what it was", to)
		}
	}
	b.all(rename("a/b", "b"), rename("b/c", "c"), rename("a", "c/a"), rename("c", "a"), rename("a/a", "b/a"))
	b.want("about")
}

// P18.4: a file and a placeholder go alone.
func TestRenameOfFiles(t *testing.T) {
	b := grown(t)
	for _, from := range []string{"a/f.x", "a/b/p.x", "a.x"} {
		was, _ := Stat(b.a, from)
		for _, to := range []string{"new.y", "a/b/c/new.y", "a/b/f.xx", "a-.x"} {
			b.all(rename(from, to), rename(to, from), rename(from, to))
			if n, e := Stat(b.a, to); n != was || e != api.OK {
				t.Errorf("%q is %+v, %d at %q, it was %+v", from, n, int(e), to, was)
			}
			b.want(to)
			b.all(rename(to, from))
		}
	}
	// A path that became free is taken anew.
	b.all(rename("a.x", "b.x"), create("a.x", "again", 1), rename("a.x", "a/a.x"), read("b.x"), read("a/a.x"))
	b.want("behind")
}

// P18.4: what Rename refuses, by the error that the chapter names first.
func TestRenameRefused(t *testing.T) {
	b := grown(t)
	for _, x := range []struct {
		from, to string
		want     api.Errno
	}{
		{"A", strings.Repeat("a", 97), api.ErrPath},
		{strings.Repeat("a", 97), "A", api.ErrLong},
		{"a/b/c/d/e/f/g/h/i", "A", api.ErrFull},
		{"a", "A", api.ErrPath},
		{"a", strings.Repeat("a", 97), api.ErrLong},
		{"a", "a/b/c/d/e/f/g/h/i", api.ErrFull},
		{"", "a.x/b", api.ErrPath},
		{"none", "a/", api.ErrPath},
		{"a", "a.x", api.ErrArg}, // a directory's to a file's
		{"a", "none.x", api.ErrArg},
		{"a.x", "a", api.ErrArg}, // and the other way
		{"a.x", "none", api.ErrArg},
		{"none", "a.x", api.ErrArg},
		{"a.x", "", api.ErrArg},
		{"", "", api.ErrArg}, // the root
		{"", "a", api.ErrArg},
		{"", "none", api.ErrArg},
		{"", "none/none", api.ErrArg},
		{"", "none.x", api.ErrArg},
		{"a", "a", api.ErrArg}, // itself
		{"a.x", "a.x", api.ErrArg},
		{"none", "none", api.ErrArg},
		{"none.x", "none.x", api.ErrArg},
		{"a", "a/new", api.ErrArg}, // below itself
		{"a", "a/b", api.ErrArg},
		{"a", "a/none/new", api.ErrArg},
		{"none", "none/new", api.ErrArg},
		{"a/b", "a/b/c/new", api.ErrArg},
		{"none", "new", api.ErrNone}, // what is not there
		{"none.x", "new.x", api.ErrNone},
		{"none", "a", api.ErrNone},
		{"none.x", "a.x", api.ErrNone},
		{"none", "", api.ErrNone},
		{"none", "none2/new", api.ErrNone},
		{"a/none", "new", api.ErrNone},
		{"a", "", api.ErrExist}, // to the root
		{"a/b", "", api.ErrExist},
		{"a", "ab", api.ErrExist}, // what is there
		{"a/b", "a", api.ErrExist},
		{"a.x", "a/f.x", api.ErrExist},
		{"a.x", "a/b/p.x", api.ErrExist},
		{"a/b/p.x", "a.x", api.ErrExist},
		{"a", "none/new", api.ErrNone}, // what has no parent
		{"a.x", "none/a.x", api.ErrNone},
		{"a.x", "a/none/a.x", api.ErrNone},
		{"a", "ab/none/a", api.ErrNone},
	} {
		b.do(x.want, rename(x.from, x.to))
	}
	b.want("refused")
}

// inside tells a tree with a directory from, and below it these paths, and others beside it.
func inside(t *testing.T, from string, below ...string) *pair {
	t.Helper()
	b := fresh(t)
	b.all(mkdir(from), create("beside.x", "beside", 1))
	for i, q := range below {
		b.all(place(from+"/"+q+"/p.x", 1, 9), create(from+"/"+q+"/f.x", textOf(70), i))
	}
	return b
}

// P18.4: where a path below would be too deep, or too long, the first such one in order tells the error, and nothing is changed.
func TestRenameTooDeepOrLong(t *testing.T) {
	l := strings.Repeat("l", 20)
	deep := "1/2/3/4/5"           // with from and p.x: 7 names
	long := l + "/" + l + "/" + l // 62 bytes, with / and p.x: 67
	for _, x := range []struct {
		below []string
		to    string
		want  api.Errno
	}{
		{[]string{deep}, "to", api.OK},
		{[]string{deep}, "up/to", api.OK}, // 8 names
		{[]string{deep}, "up/2/to", api.ErrFull},
		{[]string{deep}, "up/2/3/4/5/6/7/to", api.ErrFull},
		{[]string{long}, "up/" + strings.Repeat("t", 24), api.OK},         // 3 + 24 + 1 + 66 = 94 bytes
		{[]string{long}, "up0/" + strings.Repeat("t", 24), api.OK},        // 95 bytes
		{[]string{long}, "up00/" + strings.Repeat("t", 24), api.OK},       // 96 bytes
		{[]string{long}, "up000/" + strings.Repeat("t", 24), api.ErrLong}, // 97 bytes
		{[]string{long, "a/a/a/a/a"}, "up/" + strings.Repeat("2", 24) + "/to", api.ErrFull},
		{[]string{long, "z/a/a/a/a"}, "up/" + strings.Repeat("2", 24) + "/to", api.ErrLong},
		{[]string{"1/" + long, "1/2/3/4/5"}, "up/2/tttttt", api.ErrFull},
		{[]string{"1/" + long, "1/m/3/4/5"}, "up/2/tttttt", api.ErrFull},
		{[]string{"1/" + l, "1"}, "up/2/to", api.OK},
	} {
		b := inside(t, "from", x.below...)
		for dir := up(x.to); dir != ""; dir = up(dir) {
			b.all(place(dir+"/p.x", 1, 1))
		}
		was := b.p.copied()
		b.do(x.want, rename("from", x.to))
		b.want(x.to)
		if x.want != api.OK {
			if !maps.Equal(b.p.nodes, was.nodes) {
				t.Errorf("%q, %q: something was changed", x.below, x.to)
			}
			continue
		}
		b.all(rename(x.to, "from"))
		if !maps.Equal(b.p.nodes, was.nodes) {
			t.Errorf("%q, %q, and back: something was changed", x.below, x.to)
		}
	}
}

// P18.4: of each depth, and each length, that a path below may have, just those go that are paths then.
func TestRenameAtTheBounds(t *testing.T) {
	ok, refused := 0, map[api.Errno]int{}
	for depth := 1; depth <= 6; depth++ {
		for _, n := range []int{1, 9, 12, 17, 20, 24} {
			chain := strings.Join(slices.Repeat([]string{strings.Repeat("n", n)}, depth), "/")
			if len("from/"+chain+"/f.x") > 96 {
				continue
			}
			b := inside(t, "from", chain)
			for _, to := range longer() {
				b.all(place(up(to)+"/p.x", 1, 1))
				if e := b.any(rename("from", to)); e != api.OK {
					refused[e]++
					continue
				}
				ok++
				b.all(read(to+"/"+chain+"/f.x"), rename(to, "from"))
			}
		}
	}
	if ok < 50 || refused[api.ErrLong] < 50 || refused[api.ErrFull] < 50 {
		t.Errorf("%d went, refused: %v", ok, refused)
	}
}

// longer tells directories' paths of two names to eight.
func longer() []string {
	var l []string
	for deep := 1; deep <= 7; deep++ {
		for _, name := range []string{"u", "uuuuuu"} {
			dir := strings.Join(slices.Repeat([]string{name}, deep), "/")
			for _, last := range []int{1, 6, 9, 10, 11, 24} {
				l = append(l, dir+"/"+strings.Repeat("t", last))
			}
		}
	}
	return l
}

// P18.4: Remove of the root, of directories with something in them or not, of files and placeholders.
func TestRemove(t *testing.T) {
	b := grown(t)
	b.do(api.ErrArg, remove(""))
	b.do(api.ErrNone, remove("none"))
	b.do(api.ErrNone, remove("none.x"))
	b.do(api.ErrNone, remove("a/none"))
	b.do(api.ErrNone, remove("none/none.x"))
	b.do(api.ErrPath, remove("a.x/b"))
	b.do(api.ErrBusy, remove("a"))
	b.do(api.ErrBusy, remove("a/b"))   // files, a placeholder, a directory
	b.do(api.ErrBusy, remove("a/b/c")) // a file alone
	b.do(api.ErrBusy, remove("a/q"))   // a directory alone
	b.do(api.ErrBusy, remove("a/q/r")) // a placeholder alone
	b.all(remove("a/bb"), remove("z"))
	b.do(api.ErrNone, remove("z"))
	b.do(api.ErrNone, stat("z"))
	size, _ := content.Bytes(b.a)
	b.all(remove("a/q/r/s.x"), remove("a/q/r"), remove("a/q"), remove("a/b/p.x"))
	if n, e := content.Bytes(b.a); n != size || e != api.OK {
		t.Errorf("behind Remove of placeholders: %d bytes, %d; want %d", n, int(e), size)
	}
	b.all(remove("a/f.x"))
	if n, e := content.Bytes(b.a); n != size-100 || e != api.OK {
		t.Errorf("behind Remove of a file: %d bytes, %d; want %d", n, int(e), size-100)
	}
	b.do(api.ErrNone, read("a/f.x"))
	b.do(api.ErrBusy, remove("a/b"))
	b.all(remove("a/b/f.x"))
	b.do(api.ErrBusy, remove("a/b"))
	b.all(remove("a/b/c/f.x"), remove("a/b/c"), remove("a/b"), remove("a"))
	b.want("the rest")
	b.all(remove("ab/f.x"), remove("ab"), remove("a-/g.x"), remove("a-"), remove("a.x"))
	b.do(api.ErrArg, remove(""))
	if len(b.p.nodes)+len(b.p.has) != 0 {
		t.Errorf("left: %v", fmt.Sprint(b.p))
	}
	b.all(create("a.x", "again", 1))
	b.want("again")
}
