package scope

import (
	"math/rand/v2"
	"slices"
	"strings"
	"testing"

	"aquifer/api"
	"aquifer/path"
)

// fixedRow tells numbers that are the same in each run.
func fixedRow() *rand.Rand {
	return rand.New(rand.NewPCG(6, 1))
}

// list tells its texts as a list.
func list(l ...string) []string {
	return l
}

// numbered tells n directories in their order, each in the one given ahead (which ends with a /, or is empty).
func numbered(ahead string, n int) []string {
	var l []string
	for i := range n {
		l = append(l, ahead+string(rune('a'+i)))
	}
	return l
}

// deep tells n names.
func deep(n int) string {
	return strings.TrimSuffix(strings.Repeat("d/", n), "/")
}

// wide tells four names of n bytes in all, from 75 to 98.
func wide(n int) string {
	x := strings.Repeat("x", 24)
	return x + "/" + x + "/" + x[:23] + "/" + strings.Repeat("x", n-74)
}

// someDirs tells directories that lie below each other, beside each other, and whose texts begin alike.
func someDirs() []string {
	return list("", "a", "a/b", "a/b/c", "a/bc", "a-b", "a-b/c", "ab", "a~b", "a0", "b", "b/a", "c/a/b")
}

// somePaths tells paths to ask for: the directories, files in them and beside them, and at the limits.
func somePaths() []string {
	l := list("a.b", "a-b.x", "b.a", "c", "c/a", "c/a/b/c.d", "a/c", deep(8), deep(7)+"/e.f", wide(96))
	for _, d := range someDirs() {
		l = append(l, d, strings.TrimPrefix(d+"/x.y", "/"), strings.TrimPrefix(d+"/x/y", "/"))
	}
	return l
}

// noPaths tells texts that are no paths, with Kind's error of each.
func noPaths() map[string]api.Errno {
	return map[string]api.Errno{
		"/": api.ErrPath, "a/": api.ErrPath, "/a": api.ErrPath, "a//b": api.ErrPath, ".": api.ErrPath, "a/..": api.ErrPath, "A": api.ErrPath, "a b": api.ErrPath, "a\n": api.ErrPath, "\n": api.ErrPath,
		"a.b/c": api.ErrPath, "a.b.c": api.ErrPath, "\x00": api.ErrPath, "\xff": api.ErrPath, strings.Repeat("x", 25): api.ErrPath,
		deep(9): api.ErrFull, deep(8) + "/e.f": api.ErrFull, wide(97): api.ErrLong, strings.Repeat("/", 97): api.ErrLong, strings.Repeat("a", 5000): api.ErrLong,
	}
}

// noScopes tells lists that are no scopes, by what they lack.
func noScopes() map[string][]string {
	l := map[string][]string{
		"order":                        list("b", "a"),
		"order by names":               list("a-b", "a/b"),
		"order of the last two":        list("a", "c", "b"),
		"a path twice":                 list("a", "a"),
		"a path twice, far":            list("a", "b", "a"),
		"the root twice":               list("", ""),
		"one below another":            list("a", "a/b"),
		"one far below another":        list("a", "a/b/c/d"),
		"one below another, behind":    list("a", "b", "b/c"),
		"one below another, not next":  list("a", "b", "a/b"),
		"one ahead of what it is in":   list("a/b", "a"),
		"one below the root":           list("", "a"),
		"the root behind":              list("a", ""),
		"a file's path":                list("a.b"),
		"a file's path, ahead":         list("a.b", "b"),
		"a file's path, behind":        list("a", "b/c.d"),
		"17 directories":               numbered("", 17),
		"17 directories in one":        numbered("x/", 17),
		"17, of which one lies in one": append(numbered("", 16), "p/q"),
		"many directories":             slices.Repeat(numbered("", 16), 50),
	}
	for p := range noPaths() {
		l["no path: "+p] = list(p)
		l["no path, behind: "+p] = list("", p)
		l["no path, ahead: "+p] = list(p, "zz")
	}
	return l
}

// plainLies tells whether a path lies in one of the directories, by the texts alone.
func plainLies(dirs []string, p string) bool {
	for _, d := range dirs {
		if d == "" || p == d || strings.HasPrefix(p, d+"/") {
			return true
		}
	}
	return false
}

// plainScope tells the scope of a list of directories by other means than the package has.
func plainScope(l []string) []string {
	left := map[string]bool{}
	for _, p := range l {
		others := slices.DeleteFunc(slices.Clone(l), func(d string) bool { return d == p })
		if !plainLies(others, p) {
			left[p] = true
		}
	}
	var s []string
	for p := range left {
		s = append(s, p)
	}
	slices.SortFunc(s, func(a, b string) int { return slices.Compare(strings.Split(a, "/"), strings.Split(b, "/")) })
	return s
}

// allScopes tells each scope of at most three of someDirs.
func allScopes() [][]string {
	dirs := someDirs()
	all := [][]string{nil}
	for i, a := range dirs {
		all = append(all, list(a))
		for j, b := range dirs[:i] {
			all = append(all, list(a, b))
			for _, c := range dirs[:j] {
				all = append(all, list(a, b, c))
			}
		}
	}
	var scopes [][]string
	for _, l := range all {
		if s := plainScope(l); len(s) == len(l) {
			scopes = append(scopes, s)
		}
	}
	return scopes
}

// wantList fails, if what a call told is not the list, or not the error with nothing beside.
func wantList(t *testing.T, what string, got []string, e api.Errno, want []string, wantE api.Errno) {
	t.Helper()
	if !slices.Equal(got, want) || e != wantE {
		t.Errorf("%.200q = %.200q, %v, want %.200q, %v", what, got, e, want, wantE)
	}
}

func shown(l []string) string {
	return "[" + strings.Join(l, " ") + "]"
}

func wantMake(t *testing.T, l, want []string, wantE api.Errno) {
	t.Helper()
	s, e := Make(l)
	wantList(t, "Make"+shown(l), s, e, want, wantE)
}

func wantUnion(t *testing.T, a, b, want []string, wantE api.Errno) {
	t.Helper()
	s, e := Union(a, b)
	wantList(t, "Union"+shown(a)+shown(b), s, e, want, wantE)
	s, e = Union(b, a)
	wantList(t, "Union"+shown(b)+shown(a), s, e, want, wantE)
}

func wantMeet(t *testing.T, a, b, want []string) {
	t.Helper()
	wantList(t, "Meet"+shown(a)+shown(b), Meet(a, b), api.OK, want, api.OK)
	wantList(t, "Meet"+shown(b)+shown(a), Meet(b, a), api.OK, want, api.OK)
}

func wantMay(t *testing.T, s []string, want bool) {
	t.Helper()
	if got := May(s); got != want {
		t.Errorf("May(%.200q) = %v", s, got)
	}
}

func wantHas(t *testing.T, s []string, p string, want bool) {
	t.Helper()
	if got := Has(s, p); got != want {
		t.Errorf("Has(%.200q, %.120q) = %v", s, p, got)
	}
}

func wantCovers(t *testing.T, a, b []string, want bool) {
	t.Helper()
	if got := Covers(a, b); got != want {
		t.Errorf("Covers(%.200q, %.200q) = %v", a, b, got)
	}
}

// wantText fails, if the list has not that text, or the text not that list.
func wantText(t *testing.T, s []string, want string) {
	t.Helper()
	if x, e := Text(s); x != want || e != api.OK {
		t.Errorf("Text(%q) = %q, %v, want %q", s, x, e, want)
	}
	l, e := Parse(want)
	wantList(t, "Parse("+want+")", l, e, s, api.OK)
}

func wantNoText(t *testing.T, x string) {
	t.Helper()
	s, e := Parse(x)
	wantList(t, "Parse("+x+")", s, e, nil, api.ErrForm)
}

// What this file's helpers tell is what the tests take it for.
func TestHelpers(t *testing.T) {
	if api.MaxScope != 16 || len(wide(96)) != api.MaxPath || len(numbered("", 17)) != 17 {
		t.Error("the limits are others")
	}
	for _, p := range someDirs() {
		if k, e := path.Kind(p); k != api.PaDir || e != api.OK {
			t.Errorf("%q is no directory's path", p)
		}
	}
	for _, p := range somePaths() {
		if _, e := path.Kind(p); e != api.OK {
			t.Errorf("%q is no path", p)
		}
	}
	for p, want := range noPaths() {
		if _, e := path.Kind(p); e != want {
			t.Errorf("Kind(%.120q) tells %v", p, e)
		}
	}
	if n := len(allScopes()); n < 100 {
		t.Errorf("only %d scopes", n)
	}
}

// P6.1, P6.2, P6.3: the chapter's example.
func TestExample(t *testing.T) {
	wantMake(t, list("b", "a/c", "a"), list("a", "b"), api.OK)
	wantHas(t, list("a", "b"), "a/c/d.txt", true)
	wantMeet(t, list("a", "b"), list("a/x", "c"), list("a/x"))
}

// P6.1: Make sorts a list, and takes out what lies in another one of it.
func TestMake(t *testing.T) {
	for _, c := range []struct{ l, want []string }{
		{nil, nil}, {list(), nil}, {list(""), list("")}, {list("a"), list("a")},
		{list("", "a"), list("")}, {list("a", "", "b/c"), list("")}, {list("a", "b", ""), list("")}, {list("", ""), list("")}, // the root
		{list("a", "a"), list("a")}, {list("b", "a", "b"), list("a", "b")}, {list("a", "a", "a", "b", "b"), list("a", "b")}, // one twice
		{list("a", "a/b"), list("a")}, {list("a/b", "a"), list("a")}, {list("a/b", "c", "a"), list("a", "c")}, {list("a", "c", "a/b"), list("a", "c")}, {list("a/b/c/d", "b", "a-b", "a"), list("a", "a-b", "b")}, // one in another
		{list("a", "a/b", "a/b/c", "a/c", "a/c/d"), list("a")}, {list("a/b/c", "a/b", "a/c"), list("a/b", "a/c")},
		{list("ab", "a"), list("a", "ab")}, {list("a-b", "a"), list("a", "a-b")}, {list("a/bc", "a/b"), list("a/b", "a/bc")}, // texts that begin alike
		{list("a-b", "a/b"), list("a/b", "a-b")}, {list("a0", "a~", "a/z", "a_"), list("a/z", "a0", "a_", "a~")}, {list("a-b", "a", "a/b"), list("a", "a-b")}, // the order of names
		{list(deep(8), deep(7)), list(deep(7))}, {list(deep(8)), list(deep(8))}, {list(wide(96), wide(95)), list(wide(95), wide(96))},
	} {
		wantMake(t, c.l, c.want, api.OK)
	}
}

// P6.1: 16 directories are a scope, 17 are not, unless one of them goes.
func TestMakeHoldsMaxScope(t *testing.T) {
	wantMake(t, numbered("", 16), numbered("", 16), api.OK)
	wantMake(t, numbered("x/", 16), numbered("x/", 16), api.OK)
	for _, ahead := range []string{"", "x/"} {
		for n := 17; n <= 26; n++ {
			wantMake(t, numbered(ahead, n), nil, api.ErrFull)
		}
	}
	turned := numbered("", 17)
	slices.Reverse(turned)
	wantMake(t, turned, nil, api.ErrFull)
	wantMake(t, turned[1:], numbered("", 16), api.OK)
	for i, p := range numbered("", 16) {
		wantMake(t, append(numbered("", 16), p+"/x"), numbered("", 16), api.OK)
		wantMake(t, append(list(p+"/x"), numbered("", 16)...), numbered("", 16), api.OK)
		wantMake(t, append(numbered("", 16), p), numbered("", 16), api.OK)
		wantMake(t, slices.Insert(numbered("", 17), i, p), nil, api.ErrFull)
	}
	wantMake(t, slices.Insert(numbered("", 17), 9, ""), list(""), api.OK)
	wantMake(t, append(numbered("x/", 17), "x"), list("x"), api.OK)
	wantMake(t, slices.Repeat(numbered("", 16), 50), numbered("", 16), api.OK)
	wantMake(t, slices.Repeat(numbered("", 17), 50), nil, api.ErrFull)
}

// P6.1: a file's path, and what is no path, is refused in each place, ahead of a list that is too long.
func TestMakeRefuses(t *testing.T) {
	wrong := noPaths()
	wrong["a.b"], wrong["a/b.c"], wrong[deep(7)+"/e.f"] = api.ErrFile, api.ErrFile, api.ErrFile
	for p, want := range wrong {
		wantMake(t, list(p), nil, want)
		for _, good := range [][]string{list("a", "b"), list("", "a"), list("a", "a"), numbered("", 16), numbered("", 17)} {
			for i := range len(good) + 1 {
				wantMake(t, slices.Insert(slices.Clone(good), i, p), nil, want)
			}
		}
	}
}

// P6.1: of several refusals that of the first place is told.
func TestMakeRefusesInOrder(t *testing.T) {
	faults := []struct {
		p string
		e api.Errno
	}{{"a.b", api.ErrFile}, {"A", api.ErrPath}, {deep(9), api.ErrFull}, {wide(97), api.ErrLong}}
	for _, first := range faults {
		for _, second := range faults {
			wantMake(t, list(first.p, second.p), nil, first.e)
			wantMake(t, list("z", first.p, "a", second.p), nil, first.e)
			wantMake(t, append(numbered("", 17), first.p, second.p), nil, first.e)
		}
	}
}

// P6.1: of each list of four directories, and of longer ones, Make tells the scope that other means tell, and what lies in the list lies in it.
func TestMakeOfManyLists(t *testing.T) {
	dirs := someDirs()
	for i := range len(dirs) * len(dirs) * len(dirs) * len(dirs) {
		l := make([]string, 4)
		for j := range l {
			l[j] = dirs[i%len(dirs)]
			i /= len(dirs)
		}
		wantMake(t, l, plainScope(l), api.OK)
	}
	row := fixedRow()
	for range 3000 {
		var l []string
		for range row.IntN(40) {
			p := string(rune('a' + row.IntN(20)))
			for range row.IntN(3) {
				p += list("/", "-", "", "/b")[row.IntN(4)] + string(rune('a'+row.IntN(3)))
			}
			l = append(l, p)
		}
		want, wantE := plainScope(l), api.OK
		if len(want) > 16 {
			want, wantE = nil, api.ErrFull
		}
		wantMake(t, l, want, wantE)
		s, e := Make(l)
		for _, p := range l {
			if e == api.OK && !Has(s, p) {
				t.Errorf("%q lies not in Make(%q)", p, l)
			}
		}
	}
}

// P6.1: May tells scopes from other lists.
func TestMay(t *testing.T) {
	for _, s := range [][]string{
		nil, list(), list(""), list("a"), list("a", "b"), list("a", "a-b", "ab"), list("a/b", "a-b"), list("a/b", "a/bc", "a/c"), list("a/b/c", "a/d"),
		numbered("", 16), numbered("x/", 16), list(deep(8)), list(wide(96)),
	} {
		wantMay(t, s, true)
	}
	for _, s := range noScopes() {
		wantMay(t, s, false)
	}
	dirs := someDirs()
	for _, a := range dirs {
		wantMay(t, list(a), true)
		for _, b := range dirs {
			for _, c := range dirs {
				l := list(a, b, c)
				wantMay(t, l, slices.Equal(l, plainScope(l)))
			}
		}
	}
}

// P6.2: Has tells what is one of a scope, or lies below one.
func TestHas(t *testing.T) {
	s := list("a", "b/c", "b-c")
	for _, p := range list("a", "a/x", "a/x.y", "a/x/y/z.q", "b/c", "b/c/d", "b/c/d.e", "b-c", "b-c/d.e") {
		wantHas(t, s, p, true)
	}
	for _, p := range list("", "b", "ab", "a-b", "a.b", "ab/c", "b/cd", "b/cd/e.f", "b/c.d", "b/d", "b-cd", "c", "c/a", "x/a/y.z") {
		wantHas(t, s, p, false)
	}
	for _, p := range somePaths() {
		wantHas(t, list(""), p, true)
		wantHas(t, nil, p, false)
		wantHas(t, list(), p, false)
	}
	for _, s := range allScopes() {
		for _, p := range somePaths() {
			wantHas(t, s, p, plainLies(s, p))
		}
	}
}

// P6.2: what is no path lies in nothing, not even where it stands in the list.
func TestHasOfNoPath(t *testing.T) {
	for p := range noPaths() {
		for _, s := range [][]string{nil, list(""), list("a"), list(p), list("", p), list(p, "", "a")} {
			wantHas(t, s, p, false)
		}
	}
}

// P6.2: a list that is no scope is read as it is.
func TestHasOfNoScope(t *testing.T) {
	wantHas(t, list("b", "a"), "a/x.y", true)
	wantHas(t, list("b", "a"), "b", true)
	wantHas(t, list("a", "a"), "a/b", true)
	wantHas(t, list("a", "a/b"), "a/c", true)
	wantHas(t, list("a/b", "a"), "a/c", true)
	wantHas(t, list("", "a"), "b.c", true)
	wantHas(t, list("a", ""), "", true)
	wantHas(t, numbered("", 17), "q/x.y", true)
	wantHas(t, numbered("", 26), "z", true)
	wantHas(t, numbered("", 17), "r", false)
	// A file's path holds itself, and nothing lies below it.
	wantHas(t, list("a.b"), "a.b", true)
	wantHas(t, list("z", "a.b"), "a.b", true)
	wantHas(t, list("a.b"), "a.b/c", false)
	wantHas(t, list("a.b"), "a", false)
	// What is no path holds nothing, and hides nothing.
	for wrong := range noPaths() {
		wantHas(t, list(wrong), "a/b", false)
		wantHas(t, list(wrong), "", false)
		wantHas(t, list(wrong, "a"), "a/b", true)
		wantHas(t, list("a", wrong), "a/b", true)
	}
	wantHas(t, list("a/"), "a", false)
	wantHas(t, list("a/", "/"), "a/b", false)
	for _, l := range noScopes() {
		for _, p := range somePaths() {
			dirs := slices.DeleteFunc(slices.Clone(l), func(d string) bool {
				kind, _ := path.Kind(d)
				return kind != api.PaDir
			})
			wantHas(t, l, p, slices.Contains(l, p) || plainLies(dirs, p))
		}
	}
}

// P6.2: Covers tells whether a list has each of another one.
func TestCovers(t *testing.T) {
	for _, c := range []struct {
		a, b []string
		want bool
	}{
		{nil, nil, true}, {list(), list(), true}, {list("a"), nil, true}, {list(""), list(), true}, {list("b", "a", "A"), nil, true}, // all of none
		{nil, list("a"), false}, {nil, list(""), false}, {list(), list("A"), false}, {list(""), list(""), true}, {list(""), list("a", "b/c"), true}, {list("a"), list(""), false},
		{list("a"), list("a"), true}, {list("a"), list("a/b"), true}, {list("a/b"), list("a"), false}, {list("a", "b"), list("a/x", "b/y"), true}, {list("a", "b"), list("b"), true}, {list("b"), list("a", "b"), false},
		{list("a"), list("ab"), false}, {list("a"), list("a-b"), false}, {list("a", "b"), list("a/x", "c"), false}, {list("a", "b"), list("c", "a/x"), false}, {list("a/b", "a/c"), list("a"), false},
		{list("a"), list("a/b.c"), true}, {list("a"), list("a.b"), false}, {list("a.b"), list("a.b"), true}, {list(""), list("a.b", "a"), true}, // files' paths
		{list("b", "a"), list("a/x", "b"), true}, {list("a", "a/b"), list("a/c"), true}, {list("a"), list("a/c", "a/b", "a/b"), true}, {list("A", "a"), list("a/b"), true}, {list("", "a"), list("b"), true}, // no scopes
		{list(""), numbered("", 17), true}, {numbered("", 17), numbered("", 17), true}, {numbered("", 16), numbered("", 17), false}, {numbered("", 26), list("z/y.x"), true},
	} {
		wantCovers(t, c.a, c.b, c.want)
	}
	for wrong := range noPaths() {
		for _, a := range [][]string{nil, list(""), list(wrong), list("", wrong)} {
			wantCovers(t, a, list(wrong), false)
			wantCovers(t, a, list("", wrong), false)
			wantCovers(t, a, list(wrong, ""), false)
		}
	}
	for _, a := range allScopes() {
		for _, b := range allScopes() {
			want := true
			for _, p := range b {
				want = want && plainLies(a, p)
			}
			wantCovers(t, a, b, want)
		}
	}
}

// P6.3: Union and Meet of some scopes.
func TestUnionAndMeet(t *testing.T) {
	for _, c := range []struct{ a, b, union, meet []string }{
		{nil, nil, nil, nil}, {nil, list(), nil, nil}, {nil, list("a", "b"), list("a", "b"), nil}, {list(), list(""), list(""), nil}, // the empty scope
		{list(""), list(""), list(""), list("")}, {list(""), list("a", "b/c"), list(""), list("a", "b/c")}, {list(""), numbered("", 16), list(""), numbered("", 16)}, // the root
		{list("a", "b"), list("a", "b"), list("a", "b"), list("a", "b")}, {numbered("", 16), numbered("", 16), numbered("", 16), numbered("", 16)}, // itself
		{list("a"), list("a/b"), list("a"), list("a/b")}, {list("a", "b/c"), list("a/x", "b"), list("a", "b"), list("a/x", "b/c")}, {list("a/b/c"), list("a"), list("a"), list("a/b/c")}, // above and below
		{list("a"), list("a/b", "a/c", "a-b"), list("a", "a-b"), list("a/b", "a/c")}, {list("a/b", "a/c"), list("a/c", "a/d"), list("a/b", "a/c", "a/d"), list("a/c")},
		{list("a"), list("b"), list("a", "b"), nil}, {list("a"), list("ab"), list("a", "ab"), nil}, {list("a"), list("a-b"), list("a", "a-b"), nil}, {list("a-b"), list("a/b"), list("a/b", "a-b"), nil}, // apart
		{list("b", "d"), list("a", "c", "e"), list("a", "b", "c", "d", "e"), nil},
	} {
		wantUnion(t, c.a, c.b, c.union, api.OK)
		wantMeet(t, c.a, c.b, c.meet)
	}
}

// P6.3: a union of 16 directories is one, of 17 it is refused.
func TestUnionHoldsMaxScope(t *testing.T) {
	all := numbered("", 17)
	for n := range 17 {
		wantUnion(t, all[:n], all[n:16], all[:16], api.OK)
	}
	for n := 1; n < 17; n++ {
		wantUnion(t, all[:n], all[n:], nil, api.ErrFull)
		wantUnion(t, all[:n], all[1:], nil, api.ErrFull)
	}
	wantUnion(t, all[:16], all[:1], all[:16], api.OK)
	wantUnion(t, all[:16], numbered("a/", 16), all[:16], api.OK)
	wantUnion(t, all[:16], numbered("q/", 16), nil, api.ErrFull)
	wantUnion(t, numbered("x/", 16), list("x"), list("x"), api.OK)
	wantUnion(t, numbered("x/", 16), list(""), list(""), api.OK)
}

// P6.3: two scopes may meet in more than 16 directories: what lies in both lies there all the same.
func TestMeetOfManyDirectories(t *testing.T) {
	a := append(list("a"), numbered("b/", 15)...)
	b := append(numbered("a/", 15), "b")
	want := append(numbered("a/", 15), numbered("b/", 15)...)
	wantMeet(t, a, b, want)
	for _, p := range list("a", "b", "a/a", "a/o/x.y", "a/p", "b/a/x", "b/o", "b/p.q") {
		wantHas(t, Meet(a, b), p, Has(a, p) && Has(b, p))
	}
	wantMeet(t, append(list("a"), numbered("b/", 8)...), append(numbered("a/", 8), "b"), append(numbered("a/", 8), numbered("b/", 8)...))
}

// P6.3, P6.4: lists that are no scopes are refused, on either side, ahead of a union that is too long.
func TestNoScopesAreRefused(t *testing.T) {
	for what, l := range noScopes() {
		for _, s := range [][]string{nil, list(""), list("a"), list("a", "b"), numbered("", 16), l} {
			wantUnion(t, l, s, nil, api.ErrArg)
			wantMeet(t, l, s, nil)
		}
		if x, e := Text(l); x != "" || e != api.ErrArg {
			t.Errorf("Text of %.120q = %.120q, %v", what, x, e)
		}
	}
}

// P6.3, P6.5: of any two scopes: what lies in their union lies in one of both, in their meet in both, and the other way round; a scope covers its meets, and a union both.
func TestUnionsAndMeetsOfAllScopes(t *testing.T) {
	scopes := allScopes()
	for _, a := range scopes {
		for _, b := range scopes {
			union, e := Union(a, b)
			meet := Meet(a, b)
			if e != api.OK || !May(union) || !May(meet) {
				t.Fatalf("Union(%q, %q) = %q, %v, Meet = %q", a, b, union, e, meet)
			}
			if !Covers(union, a) || !Covers(union, b) || !Covers(a, meet) || !Covers(b, meet) {
				t.Errorf("what %q and %q have together is not covered", a, b)
			}
			for _, p := range somePaths() {
				inA, inB := plainLies(a, p), plainLies(b, p)
				if plainLies(union, p) != (inA || inB) || plainLies(meet, p) != (inA && inB) {
					t.Errorf("%q: of %q and %q: Union = %q, Meet = %q", p, a, b, union, meet)
				}
			}
		}
	}
}

// P6.4: a scope's text has each path with a newline behind, and is read again.
func TestTextAndParse(t *testing.T) {
	wantText(t, nil, "")
	wantText(t, list(), "")
	wantText(t, list(""), "\n")
	wantText(t, list("a"), "a\n")
	wantText(t, list("a", "a-b", "b"), "a\na-b\nb\n")
	wantText(t, list("a/b", "a-b"), "a/b\na-b\n")
	wantText(t, numbered("", 16), "a\nb\nc\nd\ne\nf\ng\nh\ni\nj\nk\nl\nm\nn\no\np\n")
	wantText(t, list(deep(8), wide(96)), deep(8)+"\n"+wide(96)+"\n")
	for _, s := range allScopes() {
		x, e := Text(s)
		if e != api.OK {
			t.Errorf("Text(%q) tells %v", s, e)
		}
		wantText(t, s, x)
	}
}

// P6.4: what is no scope's text is refused.
func TestParseRefuses(t *testing.T) {
	for _, x := range list(
		"a", "a\nb", "a\nb\nc", " ", // no last newline
		"\n\n", "a\n\n", "\na\n", "a\n\nb\n", "\n\n\n", // an empty line: the root among others, or twice
		"b\na\n", "a-b\na/b\n", "a\nc\nb\n", // another order
		"a\na\n", "a\nb\nb\n", // a line twice
		"a\na/b\n", "a/b\na\n", "a\nb\nb/c/d\n", // one in another one
		"/a\n", "a/\n", "a//b\n", "./a\n", "a/../b\n", "/\n", ".\n", "a\n./b\n", // paths that are not clean
		"a.b\n", "a\nb/c.d\n", "A\n", "a \n", "a\r\n", "\x00\n", "a\n\x00", "a\x00", deep(9)+"\n", wide(97)+"\n", wide(97),
	) {
		wantNoText(t, x)
	}
	for what, l := range noScopes() {
		// A path with a newline in it is none, but its lines may be.
		if !strings.Contains(what, "\n") {
			wantNoText(t, strings.Join(l, "\n")+"\n")
		}
	}
	sixteen := strings.Join(numbered("", 16), "\n")
	for _, behind := range list("", "x", "\nq", "\nq\n", "\n\n", "\nq\nr\n", "\nq\n\n", "\n"+strings.Repeat("\n", 5000)) {
		wantNoText(t, sixteen+behind)
	}
	wantNoText(t, strings.Repeat("\n", 1<<20))
	wantNoText(t, strings.Repeat("a", 1<<20)+"\n")
}

// P6.4: each short row of the signs that matter is a scope's text, or is refused.
func TestParseOfShortRows(t *testing.T) {
	signs := "ab/.\n"
	rows := list("")
	for i := 0; len(rows[i]) < 6; i++ {
		for j := range len(signs) {
			rows = append(rows, rows[i]+signs[j:j+1])
		}
	}
	taken := 0
	for _, x := range rows {
		s, e := Parse(x)
		l := strings.SplitAfter(x, "\n")
		l = l[:len(l)-1]
		dirs := true
		for i := range l {
			l[i] = strings.TrimSuffix(l[i], "\n")
			kind, _ := path.Kind(l[i])
			dirs = dirs && kind == api.PaDir
		}
		if strings.Join(append(l, ""), "\n") == x && dirs && slices.Equal(plainScope(l), l) {
			wantList(t, "Parse("+x+")", s, e, l, api.OK)
			taken++
		} else {
			wantList(t, "Parse("+x+")", s, e, nil, api.ErrForm)
		}
	}
	if taken < 20 {
		t.Errorf("only %d of the rows are texts", taken)
	}
}

// withSpare tells a copy of the list in memory that goes on behind its length, and what fails the test, if that memory was changed.
func withSpare(t *testing.T, l []string) (given []string, check func(call string)) {
	whole := append(slices.Clone(l), "", "spare", "a.b", "~")
	kept := slices.Clone(whole)
	return whole[:len(l)], func(call string) {
		if !slices.Equal(whole, kept) {
			t.Errorf("%s changed %q into %q", call, kept, whole)
		}
	}
}

// wantOwn fails, if the answer has something behind its length, or shares its memory with what was given.
func wantOwn(t *testing.T, answer []string, check func(call string), call string) {
	t.Helper()
	for _, p := range answer[len(answer):cap(answer)] {
		if p != "" {
			t.Errorf("%s tells %q behind its answer", call, p)
		}
	}
	answer = append(answer, "changed")
	for i := range answer {
		answer[i] = "changed"
	}
	check(call)
}

// P6.1 to P6.4: the lists given are not changed, and not read behind their lengths; what is told is new memory.
func TestListsGivenAreNotChanged(t *testing.T) {
	lists := append(allScopes(), list("b", "a"), list("b/c", "a", "b", "a/x", "a-b", "b"), list("a/b", "a", ""), list("a", "a.b"), list("b", "A", "a"), numbered("", 16), numbered("", 17), slices.Repeat(list("b", "a"), 20))
	for _, l := range lists {
		given, check := withSpare(t, l)
		s, _ := Make(given)
		check("Make")
		wantOwn(t, s, check, "Make")
		wantMay(t, given, May(l))
		check("May")
		wantHas(t, given, "spare", plainLies(l, "spare"))
		check("Has")
		x, _ := Text(given)
		check("Text")
		if strings.Contains(x, "spare") {
			t.Errorf("Text(%q) = %q", l, x)
		}
	}
	for _, a := range [][]string{nil, list(""), list("a", "b"), list("a/x", "b"), list("b", "a"), numbered("", 16)} {
		for _, b := range lists {
			givenA, checkA := withSpare(t, a)
			givenB, checkB := withSpare(t, b)
			check := func(call string) { checkA(call); checkB(call) }
			union, e := Union(givenA, givenB)
			check("Union")
			want, wantE := Union(a, b)
			wantList(t, "Union"+shown(a)+shown(b), union, e, want, wantE)
			wantOwn(t, union, check, "Union")
			meet := Meet(givenA, givenB)
			check("Meet")
			wantList(t, "Meet"+shown(a)+shown(b), meet, api.OK, Meet(a, b), api.OK)
			wantOwn(t, meet, check, "Meet")
			wantCovers(t, givenA, givenB, Covers(a, b))
			check("Covers")
		}
	}
}

// P6.4: what Parse tells is new memory, with nothing behind.
func TestParseTellsNewMemory(t *testing.T) {
	for _, x := range list("", "\n", "a\n", "a\nb\n") {
		first, _ := Parse(x)
		want := slices.Clone(first)
		wantOwn(t, first, func(string) {}, "Parse")
		again, e := Parse(x)
		wantList(t, "Parse("+x+")", again, e, want, api.OK)
	}
}
