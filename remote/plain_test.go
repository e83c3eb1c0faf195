package remote

import (
	"fmt"
	"regexp"
	"slices"
	"strings"
	"testing"

	"aquifer/api"
	"aquifer/chunk"
)

// What the document says of the server, told of a plain list of what was done, which is gone through anew for each answer: all tests hold the program against this.

// deed is a change that was done.
type deed struct {
	op, path, data string
	token          int
}

// plain is a server: the deed of the version n stands at n-1.
type plain struct {
	room int
	done []deed
}

// call is a change that is asked for: one of Put, Link, Delete.
type call struct {
	op, path   string
	base, from int
	data       string
	token      int
}

func (c call) String() string {
	return fmt.Sprintf("%s(%.30q, %d, from %d, %d bytes, token %d)", c.op, c.path, c.base, c.from, len(c.data), c.token)
}

func put(p string, base int, data string, token int) call {
	return call{op: "Put", path: p, base: base, data: data, token: token}
}

func link(p string, base, from, token int) call {
	return call{op: "Link", path: p, base: base, from: from, token: token}
}

func gone(p string, base, token int) call {
	return call{op: "Delete", path: p, base: base, token: token}
}

// of asks a server for the change.
func (c call) of(s *Files) (int, api.Errno) {
	switch c.op {
	case "Put":
		return s.Put(c.path, c.base, c.data, c.token)
	case "Link":
		return s.Link(c.path, c.base, c.from, c.token)
	}
	return s.Delete(c.path, c.base, c.token)
}

var (
	dirPath  = regexp.MustCompile(`\A[a-z0-9_~-]{1,24}(/[a-z0-9_~-]{1,24})*\z`)
	filePath = regexp.MustCompile(`\A([a-z0-9_~-]{1,24}/)*[a-z0-9_~-]+\.[a-z0-9_~-]+\z`)
)

// own tells what is wrong with the path of a file.
func own(p string) api.Errno {
	last := p[strings.LastIndex(p, "/")+1:]
	isFile := filePath.MatchString(p) && len(last) <= 24
	switch {
	case len(p) > 96:
		return api.ErrLong
	case p == "":
		return api.ErrDir
	case !isFile && !dirPath.MatchString(p):
		return api.ErrPath
	case strings.Count(p, "/") > 7:
		return api.ErrFull
	case !isFile:
		return api.ErrDir
	}
	return api.OK
}

// now tells a path's version now.
func (s plain) now(p string) int {
	for n := len(s.done); n > 0; n-- {
		if s.done[n-1].path == p {
			return s.there(n)
		}
	}
	return 0
}

// there tells n, if it is a version that does not say that something is gone, and else 0.
func (s plain) there(n int) int {
	if n < 1 || n > len(s.done) || s.done[n-1].op == "Delete" {
		return 0
	}
	return n
}

// by tells which version was done by a token.
func (s plain) by(token int) int {
	return 1 + slices.IndexFunc(s.done, func(d deed) bool { return token != 0 && d.token == token })
}

// used tells how many bytes of the room are taken: those of all Puts.
func (s plain) used() int {
	n := 0
	for _, d := range s.done {
		if d.op == "Put" {
			n += len(d.data)
		}
	}
	return n
}

// change tells what a version's change is.
func (s plain) change(n int) api.Change {
	d := s.done[n-1]
	if d.op == "Delete" {
		return api.Change{Version: n, Path: d.path, Gone: true}
	}
	return api.Change{Version: n, Path: d.path, Size: len(d.data), Sum: chunk.Sum(d.data)}
}

// changes tells those of the versions from one to another one.
func (s plain) changes(from, to int) []api.Change {
	var l []api.Change
	for n := from; n <= to && n <= len(s.done); n++ {
		l = append(l, s.change(n))
	}
	return l
}

// all tells the changes of what is there now.
func (s plain) all() []api.Change {
	var l []api.Change
	for n := range s.done {
		if s.now(s.done[n].path) == n+1 {
			l = append(l, s.change(n+1))
		}
	}
	slices.SortFunc(l, func(a, b api.Change) int {
		return slices.Compare(strings.Split(a.Path, "/"), strings.Split(b.Path, "/"))
	})
	return l
}

// refused tells why a change is not done, if neither its own arguments nor its token have told already what it answers.
func (s plain) refused(c call) api.Errno {
	more := 0
	if c.op == "Put" {
		more = len(c.data)
	}
	switch {
	case c.op == "Link" && s.there(c.from) == 0:
		return api.ErrNone
	case c.op == "Put" && len(c.data) > 4096:
		return api.ErrLong
	case c.op == "Delete" && s.now(c.path) == 0:
		return api.ErrNone
	case c.base != s.now(c.path):
		return api.ErrVersion
	case len(s.done) == 4096, uint(s.used())+uint(more) > uint(s.room):
		return api.ErrFull
	}
	return api.OK
}

// do does a change, if it may be, and tells its answer.
func (s *plain) do(c call) (int, api.Errno) {
	if e := own(c.path); e != api.OK {
		return 0, e
	}
	if c.base < 0 || c.from < 0 || c.token < 0 {
		return 0, api.ErrArg
	}
	if n := s.by(c.token); n > 0 {
		return n, api.OK
	}
	if e := s.refused(c); e != api.OK {
		return 0, e
	}
	d := deed{c.op, c.path, c.data, c.token}
	if c.op == "Link" {
		d.data = s.done[c.from-1].data
	}
	s.done = append(s.done, d)
	return len(s.done), api.OK
}

// pair is a server, and what it is to be.
type pair struct {
	t *testing.T
	s *Files
	p plain
}

func made(t *testing.T, room int) *pair {
	t.Helper()
	s, e := New(room)
	if e != api.OK || s == nil {
		t.Fatalf("New(%d): %d", room, int(e))
	}
	return &pair{t, s, plain{room: room}}
}

// any asks both for a change, fails if they answer otherwise, and tells the answer.
func (b *pair) any(c call) (int, api.Errno) {
	b.t.Helper()
	want, wantE := b.p.do(c)
	n, e := c.of(b.s)
	if n != want || e != wantE {
		b.t.Fatalf("%v: %d, error %d, want %d, error %d", c, n, int(e), want, int(wantE))
	}
	return n, e
}

// all asks for changes that are to be done, each as the next version.
func (b *pair) all(l ...call) {
	b.t.Helper()
	for _, c := range l {
		if n, e := b.any(c); e != api.OK || n != b.s.Last() {
			b.t.Fatalf("%v: %d, error %d: it was to be done", c, n, int(e))
		}
	}
}

// no asks for changes that are to be refused with that error, and fails if one of them changes any answer.
func (b *pair) no(want api.Errno, l ...call) {
	b.t.Helper()
	for _, c := range l {
		if _, e := b.any(c); e != want {
			b.t.Fatalf("%v: error %d, want %d", c, int(e), int(want))
		}
	}
	b.want("refused")
}

// again asks for changes that are to be answered by the version n, and fails if one of them changes any answer.
func (b *pair) again(n int, l ...call) {
	b.t.Helper()
	last := b.s.Last()
	for _, c := range l {
		if got, e := b.any(c); e != api.OK || got != n || b.s.Last() != last {
			b.t.Fatalf("%v: %d, error %d, want %d again", c, got, int(e), n)
		}
	}
	b.want("asked again")
}

// want fails, if anything that the server tells is not what it is to be.
func (b *pair) want(what string) {
	b.t.Helper()
	last := len(b.p.done)
	if n := b.s.Last(); n != last {
		b.t.Fatalf("%s: Last: %d, want %d", what, n, last)
	}
	for n := range last + 2 {
		b.wantVersion(what, n)
		b.wantFeed(what, n, 1+n%16)
	}
	for _, d := range b.p.done {
		b.wantNow(what, d.path)
		b.wantToken(what, d.token)
	}
	if l := b.s.All(); !slices.Equal(l, b.p.all()) {
		b.t.Fatalf("%s: All: %+v, want %+v", what, l, b.p.all())
	}
}

// wantVersion fails, if Get or Data of a version is not what it is to be.
func (b *pair) wantVersion(what string, n int) {
	b.t.Helper()
	var c api.Change
	var data string
	e, dataE := api.ErrNone, api.ErrNone
	if n >= 1 && n <= len(b.p.done) {
		c, e = b.p.change(n), api.OK
	}
	if b.p.there(n) > 0 {
		data, dataE = b.p.done[n-1].data, api.OK
	}
	if gotC, gotE := b.s.Get(n); gotC != c || gotE != e {
		b.t.Fatalf("%s: Get(%d): %+v, error %d, want %+v, error %d", what, n, gotC, int(gotE), c, int(e))
	}
	if got, gotE := b.s.Data(n); got != data || gotE != dataE {
		b.t.Fatalf("%s: Data(%d): %.100q, error %d, want %.100q, error %d", what, n, got, int(gotE), data, int(dataE))
	}
}

// wantFeed fails, if Feed is not what it is to be.
func (b *pair) wantFeed(what string, cursor, most int) {
	b.t.Helper()
	want, wantE := []api.Change(nil), api.ErrArg
	if cursor >= 0 && cursor <= len(b.p.done) && most >= 1 && most <= 16 {
		want, wantE = b.p.changes(cursor+1, cursor+most), api.OK
	}
	if l, e := b.s.Feed(cursor, most); e != wantE || !slices.Equal(l, want) {
		b.t.Fatalf("%s: Feed(%d, %d): %+v, error %d, want %+v, error %d", what, cursor, most, l, int(e), want, int(wantE))
	}
}

// wantNow fails, if Now is not what it is to be.
func (b *pair) wantNow(what, p string) {
	b.t.Helper()
	var want api.Change
	if n := b.p.now(p); n > 0 {
		want = b.p.change(n)
	}
	if c := b.s.Now(p); c != want {
		b.t.Fatalf("%s: Now(%.30q): %+v, want %+v", what, p, c, want)
	}
}

// wantToken fails, if Token is not what it is to be.
func (b *pair) wantToken(what string, token int) {
	b.t.Helper()
	if n := b.s.Token(token); n != b.p.by(token) {
		b.t.Fatalf("%s: Token(%d): %d, want %d", what, token, n, b.p.by(token))
	}
}

// textOf tells n bytes of many kinds.
func textOf(n int) string {
	b := make([]byte, n)
	for i := range b {
		b[i] = byte(i*7 + i/256 + n)
	}
	return string(b)
}
