package path

import (
	"math"
	"math/rand/v2"
	stdpath "path"
	"regexp"
	"slices"
	"strings"
	"testing"

	"aquifer/api"
)

// fixedRow tells numbers that are the same in each run.
func fixedRow() *rand.Rand {
	return rand.New(rand.NewPCG(5, 1))
}

// rowsOf tells all rows of these signs, up to the length, the shorter ones first.
func rowsOf(signs string, length int) []string {
	rows := []string{""}
	for i := 0; len(rows[i]) < length; i++ {
		for j := range len(signs) {
			rows = append(rows, rows[i]+signs[j:j+1])
		}
	}
	return rows
}

// x tells a plain name of n bytes.
func x(n int) string {
	return strings.Repeat("x", n)
}

// deep tells n names.
func deep(n int) string {
	return strings.TrimSuffix(strings.Repeat("d/", n), "/")
}

// wide tells four names of n bytes in all, from 75 to 98.
func wide(n int) string {
	return x(24) + "/" + x(24) + "/" + x(23) + "/" + x(n-74)
}

// plainKind tells a path's kind, or why it is none, by other means than the package has.
func plainKind(p string) (int, api.Errno) {
	if len(p) > 96 {
		return 0, api.ErrLong
	}
	if p == "" {
		return api.PaDir, api.OK
	}
	if !plainNames.MatchString(p) || strings.Count(p, ".") > 1 {
		return 0, api.ErrPath
	}
	for _, name := range strings.Split(p, "/") {
		if len(name) > 24 {
			return 0, api.ErrPath
		}
	}
	if strings.Count(p, "/") > 7 {
		return 0, api.ErrFull
	}
	if strings.Contains(p, ".") {
		return api.PaFile, api.OK
	}
	return api.PaDir, api.OK
}

var plainNames = regexp.MustCompile(`\A([a-z0-9_~-]+/)*[a-z0-9_~-]+(\.[a-z0-9_~-]+)?\z`)

// plainClean cleans a text of at most 4096 bytes by other means than the package has.
func plainClean(s string) (string, api.Errno) {
	// The library keeps each .. for which there is no name, ahead of all names.
	c := stdpath.Clean(strings.TrimLeft(s, "/"))
	if c == "." {
		return "", api.OK
	}
	if c == ".." || strings.HasPrefix(c, "../") {
		return "", api.ErrPath
	}
	if _, e := plainKind(c); e != api.OK {
		return "", e
	}
	return c, api.OK
}

// somePaths tells paths of all kinds: near each other in the order, at the limits, and the root.
func somePaths() []string {
	return []string{
		"", "a", "b", "ab", "a-b", "a_b", "a~b", "a0", "0", "-", "_", "~", "~1", "a.b", "a-.b", "a.-", "ab.c", "b.c", "-.~",
		"a/a", "a/b", "a/b.c", "a/b/c", "a/b/c.d", "a/b-c", "a/b-c.d", "a-b/c", "a-b/c.d", "a/ab", "a/ab/c.x", "ab/a", "ab/a.x",
		deep(7), deep(7) + "/e.f", deep(8), x(24), x(22) + ".y", "y." + x(22), wide(95), wide(96), "a/" + x(24) + "/z.z",
		wide(93) + ".y", wide(94) + ".y",
	}
}

// noPaths tells texts that are no paths.
func noPaths() []string {
	return []string{
		"/", "//", ".", "..", "a/", "/a", "a//b", "a/./b", "../a", "a/..", ".a", "a.", "a..b", "a.b.c", "a.b/c", "a.b/c.d", "A", "a b", "a/B.c",
		"\x00", "a\x00", "\xff", "é", "a/\n", x(25), x(23) + ".y", "y." + x(23), deep(9), deep(8) + "/e.f", wide(97), wide(97) + ".y", strings.Repeat("a", 5000), strings.Repeat("/", 5000),
	}
}

// wantPath fails, if what a call told is not the path, or not the error with nothing beside.
func wantPath(t *testing.T, what, got string, e api.Errno, want string, wantE api.Errno) {
	t.Helper()
	if got != want || e != wantE {
		t.Errorf("%.120q = %.120q, %v, want %.120q, %v", what, got, e, want, wantE)
	}
}

func wantKind(t *testing.T, p string, want int, wantE api.Errno) {
	t.Helper()
	if k, e := Kind(p); k != want || e != wantE {
		t.Errorf("Kind(%.120q) = %d, %v, want %d, %v", p, k, e, want, wantE)
	}
}

func wantClean(t *testing.T, s, want string, wantE api.Errno) {
	t.Helper()
	c, e := Clean(s)
	wantPath(t, "Clean("+s+")", c, e, want, wantE)
}

func wantJoin(t *testing.T, dir, name, want string, wantE api.Errno) {
	t.Helper()
	p, e := Join(dir, name)
	wantPath(t, "Join("+dir+", "+name+")", p, e, want, wantE)
}

func wantMoved(t *testing.T, p, from, to, want string, wantE api.Errno) {
	t.Helper()
	m, e := Moved(p, from, to)
	wantPath(t, "Moved("+p+", "+from+", "+to+")", m, e, want, wantE)
}

// The limits of this file's helpers are those that the tests take them for.
func TestHelpers(t *testing.T) {
	if len(wide(96)) != api.MaxPath || len(x(24)) != api.MaxName || strings.Count(deep(8), "/")+1 != api.MaxDeep {
		t.Error("the limits are others")
	}
	for _, p := range somePaths() {
		if _, e := plainKind(p); e != api.OK {
			t.Errorf("%q is no path", p)
		}
	}
	for _, p := range noPaths() {
		if _, e := plainKind(p); e == api.OK {
			t.Errorf("%q is a path", p)
		}
	}
}

// P5.1, P5.3, P5.4: the chapter's examples.
func TestExamples(t *testing.T) {
	wantClean(t, "/a//b/./../c.txt", "a/c.txt", api.OK)
	wantKind(t, "a.b/c", 0, api.ErrPath)
	c, e := Copy("a/b.txt", 2)
	wantPath(t, "Copy(a/b.txt, 2)", c, e, "a/b~2.txt", api.OK)
	if got := Compare("a/b", "a-b"); got != -1 {
		t.Errorf("Compare(a/b, a-b) = %d", got)
	}
}

// P5.1: the kinds of paths, and what no names are.
func TestKind(t *testing.T) {
	for _, p := range []string{"", "a", "a/b", "0", "_", "-", "~", "az09_-~", "a/b-c/d~1"} {
		wantKind(t, p, api.PaDir, api.OK)
	}
	for _, p := range []string{"a.b", "a/b.c", "a/b/c~1.txt", "-._", "~.~", "0.9"} {
		wantKind(t, p, api.PaFile, api.OK)
	}
	for _, p := range []string{
		"/", "//", "a/", "/a", "a//b", "a/b/", "/a.b", "a.b/", // a name without a sign
		".", "..", "...", ".a", "a.", "a/.", "a/..", "a/.b", "a/b.", "./a", "../a", "a/./b", "a/../b", // a . with nothing ahead or behind
		"a.b.c", "a..b", "a.b.", ".a.b", "a/b.c.d", // two of them
		"a.b/c", "a.b/c.d", "x/a.b/c", "a.b/c/d", "./b.c", // a file's name that is not the last one
		"A", "aB", "Z.a", "a.Z", "a b", " ", "a\n", "\na", "a\x00", "\x00", "é", "a.é", "\xff", "a\\b", "a*", "a/B", "B/a", "a:b", "a/ /b",
	} {
		wantKind(t, p, 0, api.ErrPath)
	}
}

// P5.1: each byte is a sign of names, or is not, wherever it stands.
func TestKindOfEachByte(t *testing.T) {
	for b := range 256 {
		s := string([]byte{byte(b)})
		dir, file, e := 0, 0, api.ErrPath
		if strings.Contains("abcdefghijklmnopqrstuvwxyz0123456789_-~", s) {
			dir, file, e = api.PaDir, api.PaFile, api.OK
		}
		wantKind(t, s+".b", file, e)
		wantKind(t, "a."+s, file, e)
		wantKind(t, "a/"+s+s+".b", file, e)
		if s == "/" || s == "." {
			continue
		}
		for _, p := range []string{s, "a" + s, s + "a", "a" + s + "a", s + "/a", "a/" + s, "a/" + s + "/a"} {
			wantKind(t, p, dir, e)
		}
	}
}

// P5.1: names of MaxName bytes, and longer ones.
func TestKindHoldsMaxName(t *testing.T) {
	wantKind(t, x(24), api.PaDir, api.OK)
	wantKind(t, "a/"+x(24), api.PaDir, api.OK)
	wantKind(t, x(24)+"/a.b", api.PaFile, api.OK)
	for n := 1; n <= 22; n++ {
		wantKind(t, x(n)+"."+x(23-n), api.PaFile, api.OK)
		wantKind(t, "a/"+x(n)+"."+x(23-n), api.PaFile, api.OK)
		wantKind(t, x(n)+"."+x(24-n), 0, api.ErrPath)
	}
	for _, p := range []string{x(25), "a/" + x(25), x(25) + "/a.b", x(23) + ".y", "y." + x(23), x(24) + ".", "." + x(24), x(24) + ".y", "y." + x(24), x(24) + "." + x(24), x(96)} {
		wantKind(t, p, 0, api.ErrPath)
	}
}

// P5.1: paths of MaxDeep names and of MaxPath bytes, and one more.
func TestKindHoldsMaxDeepAndMaxPath(t *testing.T) {
	wantKind(t, deep(8), api.PaDir, api.OK)
	wantKind(t, deep(7)+"/e.f", api.PaFile, api.OK)
	wantKind(t, deep(9), 0, api.ErrFull)
	wantKind(t, deep(8)+"/e.f", 0, api.ErrFull)
	wantKind(t, deep(48), 0, api.ErrFull)
	wantKind(t, wide(96), api.PaDir, api.OK)
	wantKind(t, wide(94)+".y", api.PaFile, api.OK)
	wantKind(t, wide(97), 0, api.ErrLong)
	wantKind(t, wide(95)+".y", 0, api.ErrLong)
	// Eight names may have up to 96 bytes, and not one more.
	eight := strings.Repeat(x(11)+"/", 7) + x(12)
	wantKind(t, eight, api.PaDir, api.OK)
	wantKind(t, eight+"x", 0, api.ErrLong)
}

// P5.1: which refusal comes first: ErrLong, ErrPath, ErrFull.
func TestKindRefusesInOrder(t *testing.T) {
	wantKind(t, deep(49), 0, api.ErrLong)
	wantKind(t, strings.Repeat("A", 97), 0, api.ErrLong)
	wantKind(t, strings.Repeat("/", 97), 0, api.ErrLong)
	wantKind(t, "a.b/"+strings.Repeat("c/", 60), 0, api.ErrLong)
	wantKind(t, strings.Repeat("A", 1<<20), 0, api.ErrLong)
	wantKind(t, strings.Repeat("A", 96), 0, api.ErrPath)
	wantKind(t, strings.Repeat("/", 96), 0, api.ErrPath)
	wantKind(t, deep(9)+"/A", 0, api.ErrPath)
	wantKind(t, deep(8)+"/", 0, api.ErrPath)
	wantKind(t, "A/"+deep(8), 0, api.ErrPath)
	wantKind(t, "a.b/"+deep(8), 0, api.ErrPath)
	wantKind(t, deep(9)+"/"+x(25), 0, api.ErrPath)
	wantKind(t, deep(8)+"/e.f.g", 0, api.ErrPath)
	wantKind(t, deep(8)+"/e.f/d", 0, api.ErrPath)
}

// P5.1: each short row of the signs that matter is a path, or is refused.
func TestKindOfShortRows(t *testing.T) {
	for _, p := range rowsOf("a~./A", 7) {
		k, e := plainKind(p)
		wantKind(t, p, k, e)
	}
	for _, p := range append(somePaths(), noPaths()...) {
		k, e := plainKind(p)
		wantKind(t, p, k, e)
	}
}

// P5.1: Clean takes needless / and . away, and a name for each .. .
func TestClean(t *testing.T) {
	for s, want := range map[string]string{
		"": "", "/": "", "////": "", ".": "", "./": "", "/.": "", "/././.": "", "a": "a", "/a": "a", "a/": "a", "//a//": "a", "///a///b///": "a/b",
		"a/./b": "a/b", "./a/.": "a", "a/..": "", "a/../": "", "/a/../b": "b", "a/b/..": "a", "a/b/../..": "", "a/b/../../c.d": "c.d",
		"a/.//../b": "b", "a/b/c/.././../d": "a/d", "a.b": "a.b", "/a//b.c/": "a/b.c", "a/b.c/..": "a", "a.b/../c": "c", "a.b/.": "a.b",
	} {
		wantClean(t, s, want, api.OK)
	}
	// What is no name may be taken away again.
	for s, want := range map[string]string{"A/../b": "b", "a/.../..": "a", x(200) + "/../a": "a", "a.b.c/..": "", deep(50) + strings.Repeat("/..", 45): deep(5), " /../a": "a"} {
		wantClean(t, s, want, api.OK)
	}
}

// P5.1: Clean refuses a .. without a name ahead, and what is no path then.
func TestCleanRefuses(t *testing.T) {
	for _, s := range []string{"..", "/..", "../", "../a", "a/../..", "./..", "a/./../../b", "//..//a", "a/../../b", "a/b/../../../c", "../" + x(200), "../A", "../" + deep(20)} {
		wantClean(t, s, "", api.ErrPath)
	}
	for _, s := range []string{"A", "/a/B/", "...", "a/...", ".a", "a.", "..a", "a../b", "a.b/c", "/a.b//c.d", "a.b.c", " ", "a/ /b", "a\x00/..b", x(25), "a.b/c/../d"} {
		wantClean(t, s, "", api.ErrPath)
	}
	wantClean(t, "/"+deep(8)+"/", deep(8), api.OK)
	wantClean(t, "/"+deep(9)+"/", "", api.ErrFull)
	wantClean(t, "/"+deep(9)+"/..", deep(8), api.OK)
	wantClean(t, "//"+wide(96)+"//", wide(96), api.OK)
	wantClean(t, "//"+wide(97)+"//", "", api.ErrLong)
	wantClean(t, "//"+wide(97)+"//..", x(24)+"/"+x(24)+"/"+x(23), api.OK)
	wantClean(t, strings.Repeat("A/", 60), "", api.ErrLong)
}

// P5.1: 4096 bytes may be cleaned, one more may not, whatever they come to.
func TestCleanHoldsItsLength(t *testing.T) {
	for s, want := range map[string]string{
		strings.Repeat("/", 4096):                     "",
		"a" + strings.Repeat("/", 4095):               "a",
		strings.Repeat("a/../", 819) + "b":            "b",
		strings.Repeat("./", 2047) + "ab":             "ab",
		deep(819) + strings.Repeat("/..", 819) + "//": "",
	} {
		if len(s) != 4096 {
			t.Fatalf("the test's text has %d bytes", len(s))
		}
		wantClean(t, s, want, api.OK)
		wantClean(t, s+"/", "", api.ErrLong)
		wantClean(t, "/"+s, "", api.ErrLong)
	}
	wantClean(t, strings.Repeat("/", 4097), "", api.ErrLong)
	wantClean(t, strings.Repeat("/", 1<<20), "", api.ErrLong)
	wantClean(t, strings.Repeat("a", 4096), "", api.ErrLong)
	wantClean(t, strings.Repeat("a", 4097), "", api.ErrLong)
	wantClean(t, "../"+strings.Repeat("/", 4093), "", api.ErrPath)
	wantClean(t, "A"+strings.Repeat("/", 4095), "", api.ErrPath)
	// A text that is too long is not looked into.
	wantClean(t, "../"+strings.Repeat("/", 4094), "", api.ErrLong)
	wantClean(t, "A"+strings.Repeat("/", 4096), "", api.ErrLong)
}

// P5.1: each short row of the signs that matter, and longer ones of pieces, is cleaned as another means has it.
func TestCleanOfRows(t *testing.T) {
	for _, s := range rowsOf("ab./", 8) {
		want, e := plainClean(s)
		wantClean(t, s, want, e)
	}
	row := fixedRow()
	pieces := []string{"a", "b", "b.c", "/", "/", "//", "/./", "/../", "..", ".", "A", x(20), "a/b/c", "a/b/c/"}
	for range 20000 {
		s := ""
		for range row.IntN(30) {
			s += pieces[row.IntN(len(pieces))]
		}
		want, e := plainClean(s)
		wantClean(t, s, want, e)
	}
}

// P5.2: Split tells the names, of the root and of what is no path none.
func TestSplit(t *testing.T) {
	for p, want := range map[string][]string{"": nil, "a": {"a"}, "a.b": {"a.b"}, "a/b/c.d": {"a", "b", "c.d"}, deep(8): {"d", "d", "d", "d", "d", "d", "d", "d"}} {
		if got := Split(p); !slices.Equal(got, want) {
			t.Errorf("Split(%q) = %q, want %q", p, got, want)
		}
	}
	for _, p := range noPaths() {
		if got := Split(p); len(got) != 0 {
			t.Errorf("Split(%.120q) = %.120q", p, got)
		}
	}
	first := Split("a/b")
	first[0] = "other"
	if again := Split("a/b"); again[0] != "a" {
		t.Errorf("two answers share memory: %q", again)
	}
}

// P5.2: Parent and Name tell a path's two parts.
func TestParentAndName(t *testing.T) {
	for _, c := range []struct {
		p, parent string
		there     bool
		name      string
	}{
		{"", "", false, ""},
		{"a", "", true, "a"},
		{"a.b", "", true, "a.b"},
		{"a/b", "a", true, "b"},
		{"a/b/c.d", "a/b", true, "c.d"},
		{deep(8), deep(7), true, "d"},
		{wide(96), wide(96)[:73], true, x(22)},
	} {
		if parent, there := Parent(c.p); parent != c.parent || there != c.there {
			t.Errorf("Parent(%q) = %q, %v, want %q, %v", c.p, parent, there, c.parent, c.there)
		}
		if name := Name(c.p); name != c.name {
			t.Errorf("Name(%q) = %q, want %q", c.p, name, c.name)
		}
	}
	for _, p := range noPaths() {
		if parent, there := Parent(p); parent != "" || there {
			t.Errorf("Parent(%.120q) = %.120q, %v", p, parent, there)
		}
		if name := Name(p); name != "" {
			t.Errorf("Name(%.120q) = %.120q", p, name)
		}
	}
}

// P5.2: Join sets one name behind a directory's path.
func TestJoin(t *testing.T) {
	wantJoin(t, "", "a", "a", api.OK)
	wantJoin(t, "", "a.b", "a.b", api.OK)
	wantJoin(t, "a", "b", "a/b", api.OK)
	wantJoin(t, "a/b", "c.d", "a/b/c.d", api.OK)
	wantJoin(t, deep(7), "e.f", deep(7)+"/e.f", api.OK)
	wantJoin(t, wide(96)[:73], x(22), wide(96), api.OK)
	for _, p := range somePaths() {
		parent, there := Parent(p)
		if there {
			wantJoin(t, parent, Name(p), p, api.OK)
		}
	}
}

// P5.2: what Join refuses, and which refusal comes first.
func TestJoinRefuses(t *testing.T) {
	for _, dir := range noPaths() {
		_, e := plainKind(dir)
		for _, name := range []string{"a", "a.b", "", "A", "a/b", x(200)} {
			wantJoin(t, dir, name, "", e)
		}
	}
	for _, name := range []string{"a", "a.b", "", "A", "a/b", x(200)} {
		wantJoin(t, "a.b", name, "", api.ErrFile)
		wantJoin(t, "a/b.c", name, "", api.ErrFile)
		wantJoin(t, wide(94)+".y", name, "", api.ErrFile)
	}
	for _, dir := range []string{"", "a", "a/b", deep(7), deep(8), wide(90)} {
		for _, name := range []string{"", "/", "a/", "/a", "a/b", "a/b.c", "../a"} {
			wantJoin(t, dir, name, "", api.ErrPath)
		}
	}
	for _, dir := range []string{"", "a", "a/b", deep(8)} {
		for _, name := range []string{"A", ".", "..", ".a", "a.", "a.b.c", "a b", "\x00", x(25), x(23) + ".y"} {
			wantJoin(t, dir, name, "", api.ErrPath)
		}
	}
	wantJoin(t, deep(8), "e", "", api.ErrFull)
	wantJoin(t, deep(8), "e.f", "", api.ErrFull)
	wantJoin(t, wide(94), "e", wide(94)+"/e", api.OK)
	wantJoin(t, wide(94), "ee", "", api.ErrLong)
	wantJoin(t, wide(96), "e", "", api.ErrLong)
	wantJoin(t, "", x(97), "", api.ErrLong)
	wantJoin(t, wide(96), "A", "", api.ErrLong)
	// What is no one name makes no path that could be too long.
	wantJoin(t, wide(96), "", "", api.ErrPath)
	wantJoin(t, "a", strings.Repeat("x/", 60), "", api.ErrPath)
}

// P5.3: Below tells whether a path lies in a directory, of any two texts.
func TestBelow(t *testing.T) {
	for _, c := range []struct {
		dir, p string
		want   bool
	}{
		{"", "a", true}, {"", "a/b.c", true}, {"", "", false}, {"a", "a", false}, {"a", "a/b", true}, {"a", "a/b/c.d", true}, {"a/b", "a/b/c.d", true},
		{"a", "ab", false}, {"a", "ab/c", false}, {"a", "a-b", false}, {"a", "a.b", false}, {"a/b", "a", false}, {"a/b", "a/bc", false}, {"b", "a/b", false},
		{"a.b", "a.b", false}, {"a.b", "a.b/c", false}, {"a/", "a/b", false}, {"/", "a", false}, {"a", "a/", false}, {"a", "a//b", false}, {"", "/", false}, {"", "A", false}, {"a", "a/B", false},
		{deep(7), deep(8), true}, {deep(8), deep(9), false}, {"d", deep(9), false}, {"", wide(96), true}, {"", wide(97), false},
	} {
		if got := Below(c.dir, c.p); got != c.want {
			t.Errorf("Below(%q, %q) = %v", c.dir, c.p, got)
		}
	}
	all := append(append(somePaths(), noPaths()...), rowsOf("ab/.", 4)...)
	for _, dir := range all {
		for _, p := range all {
			kind, _ := plainKind(dir)
			_, e := plainKind(p)
			want := kind == api.PaDir && e == api.OK && dir != p && (dir == "" || strings.HasPrefix(p, dir+"/"))
			if got := Below(dir, p); got != want {
				t.Errorf("Below(%.120q, %.120q) = %v", dir, p, got)
			}
		}
	}
}

// P5.3: Compare tells the order of any two texts, name by name.
func TestCompare(t *testing.T) {
	for _, c := range []struct {
		a, b string
		want int
	}{
		{"", "", 0}, {"a", "a", 0}, {"a/b.c", "a/b.c", 0}, {"/", "/", 0},
		{"", "a", -1}, {"", "/", -1}, {"", "\x00", -1}, {"a", "a/", -1}, {"a", "a/b", -1}, {"a/b", "a-b", -1}, {"a/b", "a.b", -1}, {"a/b", "a\x00", -1}, {"a/z", "ab", -1},
		{"a/b", "a/b/c", -1}, {"a/b/z", "a/b-", -1}, {"a", "b", -1}, {"a/z", "b", -1}, {"a", "ab", -1}, {"/a", "a", -1}, {"//", "/a", -1}, {"\x00", "\x01", -1}, {"/\xff", "\x00", -1},
		{"\x7f", "\x80", -1}, {"a", "\xff", -1}, {".", "0", -1}, {"A", "a", -1}, {strings.Repeat("a", 5000), strings.Repeat("a", 5001), -1},
	} {
		if got := Compare(c.a, c.b); got != c.want {
			t.Errorf("Compare(%.80q, %.80q) = %d, want %d", c.a, c.b, got, c.want)
		}
		if got := Compare(c.b, c.a); got != -c.want {
			t.Errorf("Compare(%.80q, %.80q) = %d, want %d", c.b, c.a, got, -c.want)
		}
	}
	all := append(append(rowsOf("a\x00/-\xff", 4), somePaths()...), noPaths()...)
	for _, a := range all {
		for _, b := range all {
			if got, want := Compare(a, b), slices.Compare(strings.Split(a, "/"), strings.Split(b, "/")); got != want {
				t.Errorf("Compare(%.80q, %.80q) = %d, want %d", a, b, got, want)
			}
		}
	}
}

// P5.3: Ups tells the directories of a path, the nearest one first, the root last.
func TestUps(t *testing.T) {
	for p, want := range map[string][]string{
		"": nil, "a": {""}, "a.b": {""}, "a/b": {"a", ""}, "a/b/c.d": {"a/b", "a", ""},
		deep(8): {deep(7), deep(6), deep(5), deep(4), deep(3), deep(2), "d", ""},
	} {
		ups := Ups(p)
		for range 2 {
			if got := slices.Collect(ups); !slices.Equal(got, want) {
				t.Errorf("Ups(%q) = %q, want %q", p, got, want)
			}
		}
	}
	for _, p := range noPaths() {
		for up := range Ups(p) {
			t.Errorf("Ups(%.120q) tells %.120q", p, up)
		}
	}
}

// P5.3: who leaves the walk over the directories is told no more of them.
func TestUpsLeftEarly(t *testing.T) {
	for most := 1; most <= 8; most++ {
		var got []string
		for up := range Ups(deep(8)) {
			got = append(got, up)
			if len(got) == most {
				break
			}
		}
		if want := slices.Collect(Ups(deep(8)))[:most]; !slices.Equal(got, want) {
			t.Errorf("the first %d of Ups = %q, want %q", most, got, want)
		}
		calls := 0
		Ups(deep(8))(func(string) bool {
			calls++
			return calls < most
		})
		if calls != most {
			t.Errorf("a walk that was left at %d went on to %d", most, calls)
		}
	}
}

// P5.4: Copy puts ~ and the number ahead of the . of a file's last name.
func TestCopy(t *testing.T) {
	for _, c := range []struct {
		p    string
		n    int
		want string
	}{
		{"a.b", 1, "a~1.b"}, {"a.b", 9, "a~9.b"}, {"a.b", 10, "a~10.b"}, {"a.b", 999, "a~999.b"}, {"a/b.txt", 2, "a/b~2.txt"}, {"a~1.x", 1, "a~1~1.x"},
		{"a/b/c.d", 100, "a/b/c~100.d"}, {deep(7) + "/e.f", 5, deep(7) + "/e~5.f"},
		{x(20) + ".y", 1, x(20) + "~1.y"}, {x(19) + ".y", 10, x(19) + "~10.y"}, {x(18) + ".y", 999, x(18) + "~999.y"}, {"y." + x(20), 1, "y~1." + x(20)},
		{wide(92) + ".y", 1, wide(92) + "~1.y"}, {wide(91) + ".y", 10, wide(91) + "~10.y"}, {wide(90) + ".y", 999, wide(90) + "~999.y"},
	} {
		got, e := Copy(c.p, c.n)
		wantPath(t, "Copy("+c.p+")", got, e, c.want, api.OK)
	}
}

// P5.4: what Copy refuses, and which refusal comes first.
func TestCopyRefuses(t *testing.T) {
	for _, c := range []struct {
		p    string
		n    int
		want api.Errno
	}{
		{"a.b", 0, api.ErrArg}, {"a.b", 1000, api.ErrArg}, {"a.b", -1, api.ErrArg}, {"a.b", math.MinInt, api.ErrArg}, {"a.b", math.MaxInt, api.ErrArg}, {"a.b", 1<<32 + 1, api.ErrArg},
		{"", 1, api.ErrArg}, {"a", 1, api.ErrArg}, {"a/b", 1, api.ErrArg}, {"", 0, api.ErrArg},
		{x(21) + ".y", 1, api.ErrPath}, {x(20) + ".y", 10, api.ErrPath}, {x(19) + ".y", 100, api.ErrPath}, {x(22) + ".y", 999, api.ErrPath}, {"y." + x(21), 1, api.ErrPath},
		{wide(93) + ".y", 1, api.ErrLong}, {wide(92) + ".y", 10, api.ErrLong}, {wide(91) + ".y", 100, api.ErrLong},
		{x(24) + "/" + x(24) + "/" + x(21) + "/" + x(22) + ".y", 1, api.ErrLong}, // and the name is too long too
		{wide(94) + ".y", 0, api.ErrArg}, {x(22) + ".y", 1000, api.ErrArg},
	} {
		got, e := Copy(c.p, c.n)
		wantPath(t, "Copy("+c.p+")", got, e, "", c.want)
	}
	for _, p := range noPaths() {
		for _, n := range []int{0, 1, 999, 1000} {
			got, e := Copy(p, n)
			wantPath(t, "Copy("+p+")", got, e, "", api.ErrArg)
		}
	}
}

// P5.4: Moved tells a path with one directory's or file's path in the place of another one.
func TestMoved(t *testing.T) {
	for _, c := range [][4]string{
		{"a/b/c.d", "a", "x/y", "x/y/b/c.d"}, {"a/b/c.d", "a/b", "x", "x/c.d"}, {"a/b/c.d", "a/b/c.d", "z.d", "z.d"}, {"a.b", "a.b", "x/y.z", "x/y.z"}, {"a", "a", "b", "b"},
		{"a/b", "a", "a", "a/b"}, {"a", "a", "a", "a"}, {"a.b", "a.b", "a.b", "a.b"}, // to itself
		{"a/b", "a", "", "b"}, {"a/b/c.d", "a/b", "", "c.d"}, {"a/b/c.d", "a", "", "b/c.d"}, {"a", "a", "", ""}, {"a.b", "a.b", "", ""}, // to the root
		{"", "", "", ""}, {"a", "", "", "a"}, {"a/b.c", "", "", "a/b.c"}, // from the root to it
		{"a/b", "a", "a/b", "a/b/b"}, {"a/a", "a", "b", "b/a"}, {"a/b/a", "a/b", "a", "a/a"}, // what goes is told by its place, not its text
		{"a", "a", "b.c", "b.c"}, {"a.b", "a.b", "c", "c"}, // another kind
		{deep(8), deep(7), deep(7), deep(8)}, {deep(2), "d", deep(7), deep(8)}, {"a/" + x(22), "a", wide(96)[:73], wide(96)}, {"a", "a", wide(96), wide(96)},
	} {
		wantMoved(t, c[0], c[1], c[2], c[3], api.OK)
	}
}

// P5.4: what Moved refuses, and which refusal comes first.
func TestMovedRefuses(t *testing.T) {
	for _, no := range noPaths() {
		wantMoved(t, "a", no, "b", "", api.ErrArg)
		wantMoved(t, "a", "a", no, "", api.ErrArg)
		wantMoved(t, no, no, no, "", api.ErrArg)
		wantMoved(t, no, no, "a", "", api.ErrArg)
		wantMoved(t, no, "a", no, "", api.ErrArg)
		wantMoved(t, no, "", no, "", api.ErrArg)
		wantMoved(t, no, "a", "b", "", api.ErrPath)
		wantMoved(t, no, "", "", "", api.ErrPath)
		wantMoved(t, no, "", "a", "", api.ErrPath)
	}
	for _, c := range [][3]string{
		{"b", "a", "c"}, {"ab", "a", "c"}, {"ab/c", "a", "c"}, {"a.b", "a", "c"}, {"a-b", "a", "c"}, {"", "a", "b"}, {"a", "a/b", "c"}, {"a.b/c", "a.b", "d"}, {"b", "a", ""}, {"b", "a", "a"}, {"b/a", "a", "c"},
		{"b", "a", wide(96)}, {"b", "a", deep(8)},
	} {
		wantMoved(t, c[0], c[1], c[2], "", api.ErrPath)
	}
	for _, c := range [][3]string{{"a", "", "b"}, {"", "", "b"}, {"a/b.c", "", "b"}, {"a", "", "a"}, {deep(8), "", "b"}, {wide(96), "", "b"}, {"a", "", "b.c"}, {"", "", "b.c"}} {
		wantMoved(t, c[0], c[1], c[2], "", api.ErrArg)
	}
	wantMoved(t, "a/b", "a", deep(8), "", api.ErrFull)
	wantMoved(t, "a/b/c.d", "a", deep(7), "", api.ErrFull)
	wantMoved(t, "a/b", "a", wide(96), "", api.ErrLong)
	wantMoved(t, "a/"+x(23), "a", wide(96)[:73], "", api.ErrLong)
	wantMoved(t, "a/b", "a", "c.d", "", api.ErrPath)
	wantMoved(t, "a/b/c.d", "a/b", "e.f", "", api.ErrPath)
	wantMoved(t, "a/"+deep(7), "a", "e/e.f", "", api.ErrPath)
	wantMoved(t, "a/"+x(24)+"/"+x(24), "a", x(24)+"/"+x(20)+".y", "", api.ErrLong)
}

// P5.4: any three texts, as another means has it.
func TestMovedOfAnyThree(t *testing.T) {
	all := append(somePaths(), "a/", "/", "A", "a.b/c", deep(9), wide(97))
	for _, p := range all {
		for _, from := range all {
			for _, to := range all {
				want, e := plainMoved(p, from, to)
				wantMoved(t, p, from, to, want, e)
			}
		}
	}
}

// plainMoved tells what Moved must, by lists of names.
func plainMoved(p, from, to string) (string, api.Errno) {
	_, fromE := plainKind(from)
	_, toE := plainKind(to)
	_, e := plainKind(p)
	if fromE != api.OK || toE != api.OK {
		return "", api.ErrArg
	}
	namesOf := func(s string) []string { return strings.FieldsFunc(s, func(r rune) bool { return r == '/' }) }
	names, head := namesOf(p), namesOf(from)
	if e != api.OK || len(names) < len(head) || !slices.Equal(names[:len(head)], head) {
		return "", api.ErrPath
	}
	if from == "" && to != "" {
		return "", api.ErrArg
	}
	moved := strings.Join(slices.Concat(namesOf(to), names[len(head):]), "/")
	if _, e := plainKind(moved); e != api.OK {
		return "", e
	}
	return moved, api.OK
}

// P5.5: what is below a directory stands behind it in the order, without anything else between.
func TestWhatIsBelowStandsBehind(t *testing.T) {
	all := append(somePaths(), rowsOf("a-~./", 5)...)
	all = slices.DeleteFunc(all, func(p string) bool {
		_, e := plainKind(p)
		return e != api.OK
	})
	row := fixedRow()
	for range 3 {
		row.Shuffle(len(all), func(i, j int) { all[i], all[j] = all[j], all[i] })
		slices.SortFunc(all, Compare)
		all = slices.Compact(all)
		for i, dir := range all {
			end := i + 1
			for end < len(all) && Below(dir, all[end]) {
				end++
			}
			for j, p := range all {
				if inside := i < j && j < end; Below(dir, p) != inside {
					t.Fatalf("%q stands at %d, %q at %d, what is below it from %d to %d", dir, i, p, j, i+1, end)
				}
			}
		}
	}
}

// P5.5: Clean of a path is that path, and Clean of what Clean told is that.
func TestCleanOfWhatIsClean(t *testing.T) {
	for _, p := range somePaths() {
		wantClean(t, p, p, api.OK)
	}
	for _, s := range rowsOf("ab./", 7) {
		if c, e := Clean(s); e == api.OK {
			wantClean(t, c, c, api.OK)
			if _, e := plainKind(c); e != api.OK {
				t.Errorf("Clean(%q) = %q, which is no path", s, c)
			}
		}
	}
}
