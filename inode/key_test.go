package inode

import (
	"bytes"
	"math"
	"slices"
	"strings"
	"testing"

	"aquifer/api"
	"aquifer/keycode"
	"aquifer/path"
)

// texts tells a key of those texts.
func texts(l ...string) []api.Part {
	var key []api.Part
	for _, s := range l {
		key = append(key, api.Part{Kind: 2, S: s})
	}
	return key
}

var (
	longDir  = strings.Repeat("z", 24)
	longFile = strings.Repeat("f", 11) + "." + strings.Repeat("g", 12)
	// Three names of 24 bytes, and one of 21: with the three / they are MaxPath (96) bytes.
	longPath = strings.Join([]string{longDir, longDir, longDir, strings.Repeat("y", 21)}, "/")
	deepPath = "a/b/c/d/e/f/g/h.x"
)

// P17.1: Key tells a path's names, as texts.
func TestKey(t *testing.T) {
	for _, x := range []struct {
		p    string
		want []api.Part
	}{
		{"", nil},
		{"a", texts("a")},
		{"a.b", texts("a.b")},
		{"a/b.c", texts("a", "b.c")},
		{"a/b", texts("a", "b")},
		{"~/-/_/0.9", texts("~", "-", "_", "0.9")},
		{deepPath, texts("a", "b", "c", "d", "e", "f", "g", "h.x")},
		{"a/b/c/d/e/f/g/h", texts("a", "b", "c", "d", "e", "f", "g", "h")},
		{longDir, texts(longDir)},
		{longFile, texts(longFile)},
		{longDir + "/" + longFile, texts(longDir, longFile)},
		{longPath, texts(longDir, longDir, longDir, strings.Repeat("y", 21))},
	} {
		key, e := Key(x.p)
		if e != api.OK || !slices.Equal(key, x.want) {
			t.Errorf("Key(%q) = %v, %d", x.p, key, int(e))
		}
		p, e := Path(x.want)
		if e != api.OK || p != x.p {
			t.Errorf("Path(%v) = %q, %d", x.want, p, int(e))
		}
	}
	if len(longPath) != api.MaxPath || len(longFile) != api.MaxName {
		t.Error("the longest ones are not the longest ones")
	}
}

// P17.1: Key of what is no path tells path.Kind's error.
func TestKeyOfNoPath(t *testing.T) {
	for _, x := range []struct {
		p    string
		want api.Errno
	}{
		{longPath + "y", api.ErrLong},
		{strings.Repeat("A", 97), api.ErrLong},
		{strings.Repeat("a/", 200), api.ErrLong},
		{deepPath + "/i", api.ErrPath}, // a file's name ahead of the last one
		{"a/b/c/d/e/f/g/h/i", api.ErrFull},
		{"a/b/c/d/e/f/g/h/i.x", api.ErrFull},
		{"A", api.ErrPath},
		{"/", api.ErrPath},
		{"/a", api.ErrPath},
		{"a/", api.ErrPath},
		{"a//b", api.ErrPath},
		{".", api.ErrPath},
		{"..", api.ErrPath},
		{"a.", api.ErrPath},
		{".a", api.ErrPath},
		{"a.b.c", api.ErrPath},
		{"a.b/c", api.ErrPath},
		{"a b", api.ErrPath},
		{"\x00", api.ErrPath},
		{"\xff", api.ErrPath},
		{"ä", api.ErrPath},
		{longDir + "z", api.ErrPath},
		{longFile + "g", api.ErrPath},
		{"a/b/c/d/e/f/g/H/i", api.ErrPath}, // no names, and more than eight
	} {
		key, e := Key(x.p)
		wantE(t, x.p, e, x.want, key == nil)
		if _, e := path.Kind(x.p); e != x.want {
			t.Errorf("path.Kind(%q) = %d", x.p, int(e))
		}
	}
}

// P17.1: Path takes no key but that of a path.
func TestPathOfNoKey(t *testing.T) {
	for i, key := range [][]api.Part{
		{{}},
		{{Kind: 1}},
		{{Kind: 1, N: 7}},
		{{Kind: 1, S: "a"}},
		{{Kind: 2}},
		{{Kind: 2, N: 1, S: "a"}},
		{{Kind: 2, N: math.MinInt, S: "a"}},
		{{Kind: 0, S: "a"}},
		{{Kind: 3, S: "a"}},
		{{Kind: -2, S: "a"}},
		{{Kind: 2, S: "a"}, {Kind: 1, N: 1}},
		{{Kind: 2, S: "a"}, {Kind: 2, N: 1, S: "b"}},
		{{Kind: 1, N: 1}, {Kind: 2, S: "a"}},
		texts(""),
		texts("", ""),
		texts("", "a"),
		texts("a", ""),
		texts("a", "", "b"),
		texts("a/b"),
		texts("a/b.c"),
		texts("a", "b/c"),
		texts("a/b", "c"),
		texts("a/"),
		texts("/a"),
		texts("/"),
		texts("A"),
		texts("."),
		texts("..", "a"),
		texts("a", ".."),
		texts("a\x00"),
		texts(longDir + "z"),
		texts(longFile + "g"),
		texts(strings.Repeat("a", 120)),
		texts(strings.Repeat("a", 1<<20)),
		texts("a", strings.Repeat("a", 1<<20)),
		texts("a.b", "c"),
		texts("a.b", "c.d"),
		texts("a", "b.c", "d"),
		texts("a", "b", "c", "d", "e", "f", "g", "h", "i"),
		texts("a", "b", "c", "d", "e", "f", "g", "h", "i.j"),
		texts(longDir, longDir, longDir, strings.Repeat("y", 22)),
		texts(longDir, longDir, longDir, longDir),
		texts(slices.Repeat([]string{"a"}, 17)...),
		texts(slices.Repeat([]string{"a"}, 1<<16)...),
	} {
		p, e := Path(key)
		if e != api.ErrForm || p != "" {
			t.Errorf("%d: %q, %d", i, p, int(e))
		}
	}
}

// smallPaths tells all paths of at most three names out of a few, of which one begins as another one does.
func smallPaths() []string {
	dirs := []string{"a", "a-", "a0", "aa", "ab", "b", "~", "a~1"}
	files := []string{"a.a", "a.aa", "a-.a", "a0.0", "aa.a", "b.a", "~.~", "a~1.a"}
	l := []string{""}
	for _, up := range append([]string{""}, dirs...) {
		for _, mid := range append([]string{""}, dirs...) {
			for _, last := range append(slices.Clone(dirs), files...) {
				names := slices.DeleteFunc([]string{up, mid, last}, func(s string) bool { return s == "" })
				l = append(l, strings.Join(names, "/"))
			}
		}
	}
	slices.Sort(l)
	return slices.Compact(l)
}

// anyNames tells names of which most are right.
func anyNames(seed uint64, many int) [][]string {
	r := fixedRow(seed)
	last := []string{"a", "a.b", longDir, longFile, "a.b.c", "", "A", longDir + "z", "x/y"}
	var l [][]string
	for range many {
		var names []string
		for range r.IntN(10) {
			names = append(names, strings.Repeat(oneOf(r, []string{"a", "b", "~", "-"}), 1+r.IntN(24)))
		}
		if r.IntN(2) == 0 {
			names = append(names, oneOf(r, last))
		}
		if r.IntN(8) == 0 && len(names) > 0 {
			names[r.IntN(len(names))] = oneOf(r, last)
		}
		l = append(l, names)
	}
	return l
}

// P17.1, P17.5: the keys of paths tell their paths, those of no path tell none.
func TestKeysOfNames(t *testing.T) {
	paths := 0
	for _, names := range anyNames(1, 20000) {
		want, ok := plainPath(texts(names...))
		p, e := Path(texts(names...))
		if p != want || (e == api.OK) != ok || !ok && e != api.ErrForm {
			t.Fatalf("Path(%q) = %q, %d", names, p, int(e))
		}
		joined := strings.Join(names, "/")
		key, e := Key(joined)
		if _, f := path.Kind(joined); e != f || e != api.OK && key != nil {
			t.Fatalf("Key(%q) = %v, %d, not %d", joined, key, int(e), int(f))
		}
		if e == api.OK && strings.Join(names, "/") != "" && !slices.Equal(key, texts(strings.Split(joined, "/")...)) {
			t.Fatalf("Key(%q) = %v", joined, key)
		}
		if ok {
			paths++
		}
	}
	if paths < 2000 {
		t.Errorf("only %d paths", paths)
	}
	for _, p := range append(smallPaths(), longPath, deepPath) {
		key, e := Key(p)
		wantE(t, p, e, api.OK, false)
		if back, e := Path(key); back != p || e != api.OK {
			t.Fatalf("%q: its key is that of %q, %d", p, back, int(e))
		}
	}
}

// codeOf tells the bytes of a path's key.
func codeOf(t *testing.T, p string) string {
	t.Helper()
	key, e := Key(p)
	wantE(t, p, e, api.OK, false)
	code, e := keycode.Encode(key)
	wantE(t, p, e, api.OK, false)
	return code
}

// P17.5: the keys of paths, and their bytes, stand in the order of the paths.
func TestOrderOfKeys(t *testing.T) {
	l := append(smallPaths(), longPath, deepPath, longDir, longFile, longDir+"/"+longFile)
	slices.SortFunc(l, path.Compare)
	for i, p := range l {
		// Every neighbour, and some that stand farther away.
		for _, j := range []int{i, i + 1, i + 2, i + 17, i + 300} {
			if j >= len(l) {
				continue
			}
			a, _ := Key(p)
			b, _ := Key(l[j])
			want := min(1, j-i)
			if keycode.Compare(b, a) != want || keycode.Compare(a, b) != -want {
				t.Fatalf("the keys of %q and %q stand otherwise", p, l[j])
			}
			if got := strings.Compare(codeOf(t, l[j]), codeOf(t, p)); got != want {
				t.Fatalf("the bytes of the keys of %q and %q stand otherwise", p, l[j])
			}
		}
	}
	at := func(p string) int { return slices.Index(l, p) }
	if !(at("a") < at("a/b") && at("a/b") < at("a-") && at("a-") < at("a-/a") && at("a-/a") < at("a.a") && at("a.a") < at("aa")) {
		t.Error("the order is not that of the names")
	}
}

// P17.5: the key of what lies below a directory begins with the directory's, and no other one's does.
func TestKeysBelow(t *testing.T) {
	l := append(smallPaths(), longPath, deepPath)
	for _, dir := range []string{"", "a", "a-", "aa", "a/a", "a~1/~", "a.a", "a/a.a", "a/b/c/d", longDir, longDir + "/" + longDir} {
		above, _ := Key(dir)
		for _, p := range l {
			key, _ := Key(p)
			begins := len(key) > len(above) && slices.Equal(key[:len(above)], above)
			if begins != path.Below(dir, p) {
				t.Fatalf("%q and %q: begins %v", dir, p, begins)
			}
			asBytes := p != dir && strings.HasPrefix(codeOf(t, p), codeOf(t, dir))
			if asBytes != begins {
				t.Fatalf("%q and %q: their bytes begin %v", dir, p, asBytes)
			}
		}
	}
}

// P17.1: what is handed in is not changed, what is handed out is new.
func TestKeysAreNew(t *testing.T) {
	first, _ := Key("a/b.c")
	first[0].S = "x"
	second, _ := Key("a/b.c")
	if !slices.Equal(second, texts("a", "b.c")) {
		t.Error("a key is handed out twice")
	}
	longer := append(texts("a", "b.c"), api.Part{Kind: 1, N: 3})
	if p, e := Path(longer[:2]); p != "a/b.c" || e != api.OK || longer[2].N != 3 || !slices.Equal(longer[:2], texts("a", "b.c")) {
		t.Error("Path changes its key, or looks behind it")
	}
	b := []byte("a/b.c")
	p := string(b)
	key, _ := Key(p)
	if b[0] = 'x'; key[0].S != "a" || bytes.Equal(b, []byte(p)) {
		t.Error("the key shares the bytes")
	}
}
