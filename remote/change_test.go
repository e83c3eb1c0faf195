package remote

import (
	"math"
	"strings"
	"testing"
	"unsafe"

	"aquifer/api"
	"aquifer/blake"
)

// most are the greatest and the least numbers, and some between.
var most = []int{math.MinInt, -1 << 40, -2, -1, 0, 1, 2, 3, 1 << 40, 1<<40 + 1, 1 << 62, math.MaxInt}

// TestExample is the chapter's own.
func TestExample(t *testing.T) {
	b := made(t, 100)
	b.all(put("a.x", 0, "hi", 5))
	b.again(1, put("a.x", 0, "hi", 5))
	b.no(api.ErrVersion, put("a.x", 0, "ho", 6))
	b.all(gone("a.x", 1, 7))
	l, e := b.s.Feed(0, 16)
	if e != api.OK || len(l) != 2 || l[0].Version != 1 || l[0].Gone || l[1] != (api.Change{Version: 2, Path: "a.x", Gone: true}) {
		t.Error(l, int(e))
	}
}

// P19.1: New refuses a room below 0 alone.
func TestNew(t *testing.T) {
	for _, room := range most {
		s, e := New(room)
		if room < 0 {
			if s != nil || e != api.ErrArg {
				t.Errorf("New(%d): %v, error %d", room, s, int(e))
			}
			continue
		}
		b := made(t, room)
		if s == nil || e != api.OK || len(s.All()) > 0 {
			t.Errorf("New(%d): %v, error %d", room, s, int(e))
		}
		b.want("new")
		b.all(put("a.x", 0, "", 0))
		b.want("a file of no bytes")
	}
}

// P19.1: what one server keeps no other one has.
func TestTwoServers(t *testing.T) {
	a, b := made(t, 10), made(t, 10)
	a.all(put("a.x", 0, "0123456789", 1))
	b.want("beside another one")
	b.all(put("a.x", 0, "9876543210", 2))
	a.want("beside another one")
}

// everyChange tells changes of all kinds, right ones and wrong ones.
func everyChange() []call {
	var l []call
	for _, p := range []string{"", "a", "a.x", "d/b.x", "none.x", "A", "a.b/c", strings.Repeat("a", 97), strings.Repeat("a/", 8) + "a.x"} {
		for _, n := range []int{math.MinInt, -1, 0, 1, 2, math.MaxInt} {
			l = append(l, put(p, n, "x", 1), put(p, n, "y", 9), put(p, 0, "", n), put(p, n, textOf(4097), n))
			l = append(l, link(p, n, 1, 1), link(p, 0, n, 9), link(p, 0, 1, n), link(p, n, n, n))
			l = append(l, gone(p, n, 1), gone(p, n, 9), gone(p, 0, n), gone(p, n, n))
		}
	}
	return l
}

// Rule 1: no server, and one that New did not make, tell ErrNil or nothing, and stay so.
func TestNoServer(t *testing.T) {
	for what, s := range map[string]*Files{"nil": nil, "plain": {}, "of new": new(Files)} {
		for _, c := range everyChange() {
			if n, e := c.of(s); n != 0 || e != api.ErrNil {
				t.Errorf("%s: %v: %d, error %d", what, c, n, int(e))
			}
		}
		for _, n := range most {
			if c, e := s.Get(n); c != (api.Change{}) || e != api.ErrNil {
				t.Errorf("%s: Get(%d): %v, error %d", what, n, c, int(e))
			}
			if d, e := s.Data(n); d != "" || e != api.ErrNil {
				t.Errorf("%s: Data(%d): %q, error %d", what, n, d, int(e))
			}
			for _, m := range most {
				if l, e := s.Feed(n, m); len(l) != 0 || e != api.ErrNil {
					t.Errorf("%s: Feed(%d, %d): %v, error %d", what, n, m, l, int(e))
				}
			}
			if s.Token(n) != 0 {
				t.Errorf("%s: Token(%d): %d", what, n, s.Token(n))
			}
		}
		for _, p := range []string{"", "a", "a.x", "A"} {
			if s.Now(p) != (api.Change{}) {
				t.Errorf("%s: Now(%q): %v", what, p, s.Now(p))
			}
		}
		if s.Last() != 0 || len(s.All()) != 0 {
			t.Errorf("%s: Last: %d, All: %v", what, s.Last(), s.All())
		}
	}
}

// noFiles tells texts that are no files' paths, and the error of each.
func noFiles() map[string]api.Errno {
	long := strings.Repeat("a", 97)
	return map[string]api.Errno{
		"": api.ErrDir, "a": api.ErrDir, "a/b": api.ErrDir, "d": api.ErrDir, strings.Repeat("a", 24): api.ErrDir, "a/b/c/d/e/f/g/h": api.ErrDir,
		long: api.ErrLong, strings.Repeat("a/", 60): api.ErrLong, strings.Repeat("A", 97): api.ErrLong, strings.Repeat("a/", 47) + "a.x": api.ErrLong, textOf(1 << 16): api.ErrLong,
		"A": api.ErrPath, "/": api.ErrPath, "a/": api.ErrPath, "/a.x": api.ErrPath, "a//b.x": api.ErrPath, ".": api.ErrPath, "..": api.ErrPath, "a/../b.x": api.ErrPath,
		"a.b.c": api.ErrPath, "a.": api.ErrPath, ".a": api.ErrPath, "a b.x": api.ErrPath, "\x00": api.ErrPath, "\xff.x": api.ErrPath, "a.b/c.x": api.ErrPath, "a.x/": api.ErrPath,
		long[:25]: api.ErrPath, long[:23] + ".x": api.ErrPath, "a/b/c/d/e/f/g/h.x/i": api.ErrPath, "a.x\n": api.ErrPath,
		"a/b/c/d/e/f/g/h/i": api.ErrFull, "a/b/c/d/e/f/g/h/i.x": api.ErrFull,
	}
}

// P19.2: what is no file's path is told first, whatever else is wrong, and whether or not the token is known.
func TestNoFiles(t *testing.T) {
	b := made(t, 3)
	b.all(put("a.x", 0, "abc", 5))
	for p, want := range noFiles() {
		if own(p) != want {
			t.Fatalf("%q: %d", p, int(own(p)))
		}
		for _, token := range []int{0, 5, 6, -1, math.MinInt} {
			for _, n := range []int{0, 1, 7, -1, math.MinInt} {
				b.no(want, put(p, n, "", token), put(p, n, "x", token), put(p, n, textOf(4097), token), link(p, n, 1, token), link(p, 0, n, token), gone(p, n, token))
			}
		}
	}
}

// P19.2: paths at their limits are files' paths.
func TestGreatPaths(t *testing.T) {
	b := made(t, 100)
	name := strings.Repeat("x", 24)
	l := []string{
		strings.Repeat("x", 22) + ".y", "a/b/c/d/e/f/g/h.x", "~.~", "_.-", "0.9",
		name + "/" + name + "/" + name + "/" + strings.Repeat("z", 19) + ".y",
	}
	for i, p := range l {
		b.all(put(p, 0, textOf(i), i+1))
	}
	b.want("great paths")
}

// P19.2: numbers below 0 are refused behind the path's errors, and ahead of all else.
func TestBelowZero(t *testing.T) {
	b := made(t, 3)
	b.all(put("a.x", 0, "abc", 5), put("b.x", 0, "", 6), gone("b.x", 2, 7))
	for _, n := range []int{-1, -2, -1 << 40, math.MinInt + 1, math.MinInt} {
		for _, p := range []string{"a.x", "b.x", "c.x"} {
			b.no(api.ErrArg, put(p, n, "", 0), put(p, n, "x", 5), put(p, n, textOf(4097), 8), put(p, 0, "", n), put(p, 1, "x", n), put(p, n, textOf(4097), n))
			b.no(api.ErrArg, link(p, n, 1, 0), link(p, n, 1, 5), link(p, n, 9, 8), link(p, 0, n, 0), link(p, 1, n, 5), link(p, 9, n, 8), link(p, 0, 1, n), link(p, 9, 9, n), link(p, n, n, n))
			b.no(api.ErrArg, gone(p, n, 0), gone(p, n, 5), gone(p, n, 8), gone(p, 0, n), gone(p, 1, n), gone(p, 9, n), gone(p, n, n))
		}
	}
}

// P19.2: a token by which a change was done tells its version, whatever it is asked for with, ahead of all errors that lie behind.
func TestTokenAgain(t *testing.T) {
	b := made(t, 5)
	b.all(put("a.x", 0, "abc", 5), link("b.x", 0, 1, 6), gone("a.x", 1, 7), put("a.x", 0, "de", math.MaxInt))
	for n, token := range []int{5, 6, 7, math.MaxInt} {
		for _, p := range []string{"a.x", "b.x", "c.x", "d/a.x"} {
			for _, base := range []int{0, 1, 2, 4, 5, math.MaxInt} {
				b.again(n+1, put(p, base, "abc", token), put(p, base, "", token), put(p, base, textOf(4096), token), put(p, base, textOf(4097), token), put(p, base, textOf(1<<16), token))
				b.again(n+1, link(p, base, 0, token), link(p, base, 1, token), link(p, base, 3, token), link(p, base, math.MaxInt, token), gone(p, base, token))
			}
		}
	}
}

// P19.2: by the token 0 nothing is known, however often it is asked with.
func TestTokenZero(t *testing.T) {
	b := made(t, 100)
	b.all(put("a.x", 0, "x", 0), put("a.x", 1, "x", 0), put("a.x", 2, "x", 0), link("b.x", 0, 3, 0), link("b.x", 4, 3, 0), gone("a.x", 3, 0))
	b.no(api.ErrNone, gone("a.x", 3, 0), gone("a.x", 0, 0))
	b.no(api.ErrVersion, put("a.x", 3, "x", 0), link("b.x", 4, 3, 0))
	b.all(put("a.x", 0, "x", 0), gone("a.x", 7, 0))
	b.wantToken("nothing by it", 0)
}

// P19.2: a token whose change was refused has done none, and may do one later.
func TestTokenRefused(t *testing.T) {
	b := made(t, 3)
	b.all(put("a.x", 0, "x", 1))
	b.no(api.ErrVersion, put("a.x", 0, "y", 5), link("a.x", 0, 1, 5), gone("a.x", 0, 5))
	b.no(api.ErrNone, link("b.x", 0, 2, 5), gone("b.x", 0, 5))
	b.no(api.ErrLong, put("b.x", 0, textOf(4097), 5))
	b.no(api.ErrFull, put("b.x", 0, "123", 5))
	b.no(api.ErrDir, put("b", 0, "1", 5))
	b.wantToken("refused", 5)
	b.all(put("b.x", 0, "12", 5))
	b.again(2, put("b.x", 0, "123", 5))
}

// P19.2: a change is one over the path's version now alone.
func TestBase(t *testing.T) {
	b := made(t, 100)
	b.all(put("a.x", 0, "one", 1), put("b.x", 0, "two", 2), put("a.x", 1, "three", 3), put("c.x", 0, "four", 4), gone("c.x", 4, 5), put("b.x", 2, "five", 0))
	nows := map[string]int{"a.x": 3, "b.x": 6, "c.x": 0, "d.x": 0}
	for p, now := range nows {
		for _, base := range []int{0, 1, 2, 3, 4, 5, 6, 7, 4096, 1 << 40, math.MaxInt} {
			if base == now {
				continue
			}
			b.no(api.ErrVersion, put(p, base, "x", 0), put(p, base, "", 9), link(p, base, 1, 0), link(p, base, 3, 9))
			if now > 0 {
				b.no(api.ErrVersion, gone(p, base, 0), gone(p, base, 9))
			} else {
				b.no(api.ErrNone, gone(p, base, 0), gone(p, base, 9))
			}
		}
	}
	b.no(api.ErrNone, gone("c.x", 0, 0), gone("d.x", 0, 9))
	b.all(put("c.x", 0, "x", 0), link("d.x", 0, 1, 0), gone("a.x", 3, 0), put("a.x", 0, "y", 0), gone("b.x", 6, 0), link("b.x", 0, 2, 0))
	b.want("all changed")
}

// P19.2: what is tried for a link stands ahead of the base; so does a text that is too long, and what was never there.
func TestErrorsInOrder(t *testing.T) {
	b := made(t, 5)
	b.all(put("a.x", 0, "abc", 5), put("b.x", 0, "d", 6), gone("b.x", 2, 7))
	b.no(api.ErrNone, link("a.x", 9, 0, 8), link("a.x", 9, 3, 8), link("a.x", 1, 4, 8))
	b.no(api.ErrLong, put("a.x", 9, textOf(4097), 8), put("a.x", 1, textOf(4097), 8), put("c.x", 9, textOf(1<<20), 8))
	b.no(api.ErrNone, gone("b.x", 2, 8), gone("b.x", 3, 8), gone("c.x", 9, 8))
	b.no(api.ErrVersion, put("a.x", 9, "12", 8), put("c.x", 1, textOf(4096), 8), link("a.x", 9, 1, 8), gone("a.x", 9, 8))
	b.no(api.ErrFull, put("a.x", 1, "12", 8), put("c.x", 0, textOf(4096), 8))
	b.all(put("a.x", 1, "1", 8))
}

// P19.2: what a link gives a path is what the version from has, whosever it is, and whatever became of that path.
func TestLink(t *testing.T) {
	b := made(t, 10)
	b.no(api.ErrNone, link("a.x", 0, 0, 0), link("a.x", 0, 1, 0), link("a.x", 0, 2, 0), link("a.x", 0, math.MaxInt, 0))
	b.all(put("a.x", 0, "one", 1), link("b.x", 0, 1, 2), link("a.x", 1, 1, 3), link("a.x", 3, 3, 4), put("b.x", 2, "other", 5), gone("a.x", 4, 6))
	b.want("linked")
	for _, from := range []int{0, 6, 7, 8, 4096, 1 << 40, math.MaxInt} {
		b.no(api.ErrNone, link("a.x", 0, from, 0), link("b.x", 5, from, 9), link("c.x", 0, from, 9))
	}
	b.all(link("a.x", 0, 1, 0), link("c.x", 0, 2, 0), link("d.x", 0, 4, 0), link("b.x", 5, 3, 0), link("b.x", 10, 5, 0), gone("b.x", 11, 0), link("b.x", 0, 11, 0))
	b.want("linked to what has gone, or was written over")
	if d, e := b.s.Data(9); d != "one" || e != api.OK {
		t.Errorf("Data(9): %q, error %d", d, int(e))
	}
	if c := b.s.Now("d.x"); c.Size != 3 || c.Path != "d.x" || c.Version != 9 || c.Gone || c.Sum != blake.Of([]byte("one")) {
		t.Errorf("Now(d.x): %+v", c)
	}
}

// P19.2: a link asks for no room, and takes none.
func TestLinkWithoutRoom(t *testing.T) {
	b := made(t, 5)
	b.all(put("a.x", 0, "123", 1), link("b.x", 0, 1, 0), link("c.x", 0, 1, 0), put("d.x", 0, "45", 2), link("e.x", 0, 1, 0), link("a.x", 1, 4, 0), link("d.x", 4, 1, 0))
	b.no(api.ErrFull, put("f.x", 0, "6", 0))
	b.all(put("f.x", 0, "", 0), gone("a.x", 6, 0), link("a.x", 0, 1, 0))
	b.want("linked")
	empty := made(t, 0)
	empty.all(put("a.x", 0, "", 0), link("b.x", 0, 1, 0), gone("a.x", 1, 0), link("a.x", 0, 2, 0))
	empty.want("no room at all")
}

// P19.2: a file has at most MaxSize bytes.
func TestGreatData(t *testing.T) {
	b := made(t, 3*4096)
	b.all(put("a.x", 0, "", 1), put("b.x", 0, textOf(4096), 2), put("c.x", 0, textOf(4095), 3))
	b.no(api.ErrLong, put("d.x", 0, textOf(4097), 4), put("d.x", 0, textOf(1<<16), 0), put("a.x", 1, textOf(4097), 4))
	b.all(put("d.x", 0, textOf(4096), 4), put("e.x", 0, "1", 5))
	b.no(api.ErrFull, put("f.x", 0, "2", 6))
	b.want("great data")
}

// P19.2: just so many bytes as there is room for may come, and not one more; bytes of what has gone, or was written over, count as they did.
func TestRoom(t *testing.T) {
	for room := range 12 {
		b := made(t, room)
		b.no(api.ErrFull, put("a.x", 0, textOf(room+1), 1))
		b.all(put("a.x", 0, textOf(room), 1))
		b.no(api.ErrFull, put("a.x", 1, "x", 2), put("b.x", 0, "x", 2), put("b.x", 0, textOf(room+1), 2))
		b.all(put("b.x", 0, "", 2), gone("a.x", 1, 3))
		b.no(api.ErrFull, put("a.x", 0, "x", 4), put("b.x", 2, "x", 4))
		b.all(put("a.x", 0, "", 4), put("b.x", 2, "", 5), gone("b.x", 5, 6))
		b.no(api.ErrFull, put("c.x", 0, "x", 7))
		b.want("full")
	}
	b := made(t, 10)
	b.all(put("a.x", 0, "1234", 0), put("a.x", 1, "5678", 0))
	b.no(api.ErrFull, put("a.x", 2, "123", 0), put("b.x", 0, "123", 0))
	b.all(put("a.x", 2, "12", 0))
	b.no(api.ErrFull, put("a.x", 3, "1", 0))
	b.want("written over")
}

// P19.2: there are at most MaxVersions versions, of whatever kind; a token is answered then too.
func TestMaxVersions(t *testing.T) {
	b := made(t, 4)
	b.all(put("a.x", 0, "one", 1), link("b.x", 0, 1, 2), gone("b.x", 2, 3), put("d.x", 0, "", 4))
	for n := 4; n < 4096; n++ {
		c := []call{put("c.x", b.p.now("c.x"), "", 0), link("c.x", b.p.now("c.x"), 1, 0), gone("c.x", b.p.now("c.x"), 0)}[n%3]
		if n == 4095 {
			c = put("d.x", 4, "", 5)
		}
		b.all(c)
	}
	now := b.p.now("c.x")
	for _, c := range []call{
		put("c.x", now, "", 0), put("e.x", 0, "1", 6), put("e.x", 0, "12", 6), put("e.x", 0, "", 6), link("c.x", now, 1, 0), link("e.x", 0, 4096, 6), gone("a.x", 1, 0), gone("d.x", 4096, 6),
	} {
		if n, e := b.any(c); n != 0 || e != api.ErrFull {
			t.Errorf("%v: %d, error %d", c, n, int(e))
		}
	}
	for _, c := range []call{put("d.x", 0, "", 5), link("a.x", 0, 0, 5), gone("d.x", 4096, 5), put("a.x", 0, textOf(4097), 5)} {
		if n, e := b.any(c); n != 4096 || e != api.OK {
			t.Errorf("%v: %d, error %d", c, n, int(e))
		}
	}
	for _, c := range []struct {
		call
		want api.Errno
	}{
		{put("c.x", now+1, "", 0), api.ErrVersion}, {put("e.x", 0, textOf(4097), 0), api.ErrLong}, {link("e.x", 0, 3, 0), api.ErrNone}, {link("e.x", 0, 4097, 0), api.ErrNone},
		{link("e.x", 1, 1, 0), api.ErrVersion}, {gone("e.x", 0, 0), api.ErrNone}, {gone("a.x", 2, 0), api.ErrVersion}, {put("e", 0, "", 0), api.ErrDir}, {put("e.x", -1, "", 0), api.ErrArg},
	} {
		if n, e := b.any(c.call); n != 0 || e != c.want {
			t.Errorf("%v: %d, error %d, want %d", c.call, n, int(e), int(c.want))
		}
	}
	b.want("full")
}

// P19.2: the 4096th version may be of each kind, the next one of none.
func TestLastVersion(t *testing.T) {
	for kind := range 3 {
		b := made(t, 4096)
		for n := range 4095 {
			b.all(put("a.x", n, "1", n+1))
		}
		b.all([]call{put("a.x", 4095, "2", 9999), link("b.x", 0, 7, 9999), gone("a.x", 4095, 9999)}[kind])
		for _, c := range []call{put("a.x", b.p.now("a.x"), "", 0), put("c.x", 0, "", 0), link("c.x", 0, 1, 0), link("a.x", b.p.now("a.x"), 1, 0)} {
			if n, e := b.any(c); n != 0 || e != api.ErrFull {
				t.Errorf("%v: %d, error %d", c, n, int(e))
			}
		}
		if b.s.Last() != 4096 || b.s.Token(9999) != 4096 || b.s.Token(4095) != 4095 {
			t.Errorf("kind %d: Last: %d, Token: %d", kind, b.s.Last(), b.s.Token(9999))
		}
	}
}

// Rule 5: what is handed in is not kept.
func TestHandedIn(t *testing.T) {
	for _, n := range []int{1, 64, 100, 4096} {
		p, data := []byte("d/a.x"), []byte(textOf(n))
		pText, dataText := unsafe.String(&p[0], len(p)), unsafe.String(&data[0], n)
		b := made(t, 1<<20)
		b.all(put("d/a.x", 0, "one", 1))
		if n, e := b.s.Put(pText, 1, dataText, 2); n != 2 || e != api.OK {
			t.Fatalf("Put: %d, error %d", n, int(e))
		}
		if n, e := b.s.Link(pText, 2, 1, 3); n != 3 || e != api.OK {
			t.Fatalf("Link: %d, error %d", n, int(e))
		}
		if n, e := b.s.Delete(pText, 3, 4); n != 4 || e != api.OK {
			t.Fatalf("Delete: %d, error %d", n, int(e))
		}
		if n, e := b.s.Put(pText, 0, dataText, 5); n != 5 || e != api.OK {
			t.Fatalf("Put: %d, error %d", n, int(e))
		}
		for _, c := range []call{put("d/a.x", 1, textOf(n), 2), link("d/a.x", 2, 1, 3), gone("d/a.x", 3, 4), put("d/a.x", 0, textOf(n), 5)} {
			b.p.do(c)
		}
		clear(p)
		clear(data)
		b.want("the caller has other bytes")
	}
}
