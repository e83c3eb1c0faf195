package localtree

import (
	"crypto/sha256"
	"maps"
	"regexp"
	"slices"
	"strings"

	"aquifer/api"
	"aquifer/chunk"
)

// What the document says of the local tree, told of a map of inodes and a map of chunks: all tests hold the program against this.

// at is where a chunk stands: its content's number, and its place.
type at struct{ id, i int }

// plain is what a store has: inodes by their paths, without the root, and contents.
type plain struct {
	last  int
	nodes map[string]api.Inode
	has   map[at]string
}

// copied tells the same, to be changed for itself.
func (p plain) copied() plain {
	c := plain{p.last, maps.Clone(p.nodes), maps.Clone(p.has)}
	if c.nodes == nil {
		c.nodes, c.has = map[string]api.Inode{}, map[at]string{}
	}
	return c
}

var (
	dirName  = regexp.MustCompile(`^[a-z0-9_~-]{1,24}$`)
	fileName = regexp.MustCompile(`^[a-z0-9_~-]+\.[a-z0-9_~-]+$`)
)

// plainKind tells a path's kind, or why it is none.
func plainKind(q string) (int, api.Errno) {
	names := strings.Split(q, "/")
	last := names[len(names)-1]
	isFile := len(last) <= 24 && fileName.MatchString(last)
	switch {
	case len(q) > 96:
		return 0, api.ErrLong
	case q == "":
		return 1, api.OK
	case slices.ContainsFunc(names[:len(names)-1], func(s string) bool { return !dirName.MatchString(s) }):
		return 0, api.ErrPath
	case !isFile && !dirName.MatchString(last):
		return 0, api.ErrPath
	case len(names) > 8:
		return 0, api.ErrFull
	case isFile:
		return 2, api.OK
	}
	return 1, api.OK
}

// own tells a path's own errors: of a kind 0 whatever it is.
func own(q string, kind int) api.Errno {
	is, e := plainKind(q)
	switch {
	case e != api.OK:
		return e
	case kind == 1 && is == 2:
		return api.ErrFile
	case kind == 2 && is == 1:
		return api.ErrDir
	}
	return api.OK
}

// up tells the directory that a path lies in.
func up(q string) string {
	return q[:max(0, strings.LastIndex(q, "/"))]
}

// lies tells whether q lies below a directory, at any depth.
func lies(dir, q string) bool {
	return q != "" && (dir == "" || strings.HasPrefix(q, dir+"/"))
}

// is tells what is at a path, and whether something is.
func (p plain) is(q string) (api.Inode, bool) {
	if q == "" {
		return api.Inode{Kind: 1}, true
	}
	n, there := p.nodes[q]
	return n, there
}

// paths tells all paths, name by name in order.
func (p plain) paths() []string {
	return slices.SortedFunc(maps.Keys(p.nodes), func(a, b string) int {
		return slices.Compare(strings.Split(a, "/"), strings.Split(b, "/"))
	})
}

// all tells a content's bytes, byte by byte: each of them stands in a chunk that has as many as there must be of it.
func (p plain) all(id, size int) (string, bool) {
	var b []byte
	for i := range size {
		s := p.has[at{id, i / 64}]
		if len(s) != min(64, size-i/64*64) {
			return "", false
		}
		b = append(b, s[i%64])
	}
	return string(b), true
}

// drop lets a content go.
func (p *plain) drop(id int) {
	for i := range 64 {
		delete(p.has, at{id, i})
	}
}

// give gives the next content.
func (p *plain) give(s string) int {
	p.last++
	for i := 0; s != ""; i++ {
		n := min(64, len(s))
		p.has[at{p.last, i}], s = s[:n], s[n:]
	}
	return p.last
}

// call is a call of the layer: which one, and with what.
type call struct {
	op   string
	p, q string // q: to, or bytes
	n    int    // now, a version, a content's number
	a    api.Arch
}

// answer is what a call tells.
type answer struct {
	node  api.Inode
	names []string
	items []api.Item
	s     string
	n     int
	e     api.Errno
}

// ownErrors tells what is told of a call's paths alone.
func (c call) ownErrors() api.Errno {
	kinds := map[string]int{
		"List": 1, "Mkdir": 1, "Create": 2, "Read": 2, "Write": 2,
		"Place": 2, "Fill": 2, "Empty": 2, "Mark": 2, "Touch": 2,
	}
	switch c.op {
	case "Files", "Hydrated":
		return api.OK
	case "Rename":
		if e := own(c.p, 0); e != api.OK {
			return e
		}
		return own(c.q, 0)
	}
	return own(c.p, kinds[c.op])
}

// tell tells what a call must tell, and does what it must do.
func (p *plain) tell(c call) (r answer) {
	if e := c.ownErrors(); e != api.OK {
		return answer{e: e}
	}
	n, there := p.is(c.p)
	switch c.op {
	case "Files", "Hydrated":
		r = p.tellAll(c.op)
	case "Mkdir", "Create":
		r.e = p.make(c, there)
	case "Rename":
		r.e = p.rename(c.p, c.q)
	case "Place":
		r.e = p.place(c)
	case "Remove":
		r.e = p.remove(c.p)
	default:
		if !there {
			return answer{e: api.ErrNone}
		}
		r = p.tellOf(c, n)
	}
	return r
}

// tellAll tells what Files and Hydrated tell.
func (p *plain) tellAll(op string) (r answer) {
	for _, q := range p.paths() {
		n := p.nodes[q]
		switch {
		case n.Kind == 2 && op == "Files":
			r.items = append(r.items, api.Item{Path: q, Node: n})
		case n.Kind == 2 && n.Content > 0:
			r.n += n.Size
		}
	}
	return r
}

// make does Mkdir and Create.
func (p *plain) make(c call, there bool) api.Errno {
	_, upThere := p.is(up(c.p))
	switch {
	case there:
		return api.ErrExist
	case !upThere:
		return api.ErrNone
	case c.op == "Mkdir":
		p.nodes[c.p] = api.Inode{Kind: 1}
		return api.OK
	case len(c.q) > 4096:
		return api.ErrLong
	case c.n < 0 || c.n > 1<<40:
		return api.ErrArg
	case p.last == 1<<40:
		return api.ErrFull
	}
	p.nodes[c.p] = api.Inode{Kind: 2, Size: len(c.q), Sum: chunk.Sum(c.q), Content: p.give(c.q), Opened: c.n}
	return api.OK
}

func (p *plain) rename(from, to string) api.Errno {
	a, _ := plainKind(from)
	b, _ := plainKind(to)
	n, there := p.is(from)
	_, taken := p.is(to)
	_, upThere := p.is(up(to))
	switch {
	case a != b || from == "" || to == from || lies(from, to):
		return api.ErrArg
	case !there:
		return api.ErrNone
	case taken:
		return api.ErrExist
	case !upThere:
		return api.ErrNone
	}
	after := p.copied()
	delete(after.nodes, from)
	after.nodes[to] = n
	for _, q := range p.paths() {
		if !lies(from, q) {
			continue
		}
		moved := to + q[len(from):]
		if _, e := plainKind(moved); e != api.OK {
			return e
		}
		delete(after.nodes, q)
		after.nodes[moved] = p.nodes[q]
	}
	*p = after
	return api.OK
}

func (p *plain) remove(q string) api.Errno {
	n, there := p.is(q)
	switch {
	case q == "":
		return api.ErrArg
	case !there:
		return api.ErrNone
	}
	for other := range p.nodes {
		if lies(q, other) {
			return api.ErrBusy
		}
	}
	p.drop(n.Content)
	delete(p.nodes, q)
	return api.OK
}

func (p *plain) place(c call) api.Errno {
	if c.a.Version < 1 || c.a.Version > 1<<40 || c.a.Size < 0 || c.a.Size > 4096 {
		return api.ErrArg
	}
	for dir := up(c.p); dir != ""; dir = up(dir) {
		p.nodes[dir] = api.Inode{Kind: 1}
	}
	p.drop(p.nodes[c.p].Content)
	p.nodes[c.p] = api.Inode{Kind: 2, Size: c.a.Size, Sum: c.a.Sum, Version: c.a.Version}
	return api.OK
}

// tellOf tells what the calls tell that are about what is there, and does what they do.
func (p *plain) tellOf(c call, n api.Inode) (r answer) {
	switch c.op {
	case "Stat":
		r.node = n
	case "List":
		for _, q := range p.paths() {
			if up(q) == c.p {
				r.names = append(r.names, q[strings.LastIndex(q, "/")+1:])
			}
		}
	case "Read", "Write":
		if n.Content == 0 {
			return answer{e: api.ErrHollow}
		}
		s, _ := p.all(n.Content, n.Size)
		if r.s = s; c.op == "Write" {
			return answer{e: p.write(c, n, s)}
		}
	default:
		r.e = p.turn(c, n)
	}
	return r
}

func (p *plain) write(c call, n api.Inode, had string) api.Errno {
	switch {
	case len(c.q) > 4096:
		return api.ErrLong
	case c.q == had:
		return api.OK
	case p.last == 1<<40:
		return api.ErrFull
	}
	p.drop(n.Content)
	n.Size, n.Sum, n.Content, n.Version = len(c.q), chunk.Sum(c.q), p.give(c.q), 0
	p.nodes[c.p] = n
	return api.OK
}

// turn does Fill, Empty, Mark and Touch.
func (p *plain) turn(c call, n api.Inode) api.Errno {
	_, whole := p.all(c.n, n.Size)
	switch {
	case c.op == "Fill" && n.Content != 0:
		return api.ErrState
	case c.op == "Fill" && (c.n < 1 || c.n > p.last):
		return api.ErrArg
	case c.op == "Fill" && !whole:
		return api.ErrHollow
	case c.op == "Empty" && (n.Content == 0 || n.Version == 0):
		return api.ErrState
	case c.op == "Mark" && (c.n < 1 || c.n > 1<<40), c.op == "Touch" && (c.n < 0 || c.n > 1<<40):
		return api.ErrArg
	}
	switch c.op {
	case "Fill":
		n.Content = c.n
	case "Empty":
		p.drop(n.Content)
		n.Content = 0
	case "Mark":
		n.Version = c.n
	case "Touch":
		n.Opened = c.n
	}
	p.nodes[c.p] = n
	return api.OK
}

// someSum tells a digest that is no file's.
func someSum(s string) [32]byte {
	return sha256.Sum256([]byte(s))
}
