package btree

import (
	"aquifer/api"
)

// spot is a page that must have a node, how deep it lies, and the bounds of its keys: not below low, and below high, if that is not empty.
type spot struct {
	id, depth int
	low, high string
}

// survey is what is found of a tree that is gone through.
type survey struct {
	height int // of the leaves that were found; 0: none yet
	pages  map[int]struct{}
}

// Height tells how many nodes lie above one another.
func (x *Tree) Height() (int, api.Errno) {
	s, e := x.walk()
	return s.height, e
}

// Pages tells how many pages the tree has, those of values among them.
func (x *Tree) Pages() (int, api.Errno) {
	s, e := x.walk()
	return len(s.pages), e
}

// Check tells whether the pages are a tree.
func (x *Tree) Check() api.Errno {
	_, e := x.walk()
	return e
}

// walk goes through the whole tree.
func (x *Tree) walk() (survey, api.Errno) {
	if e := x.ready(); e != api.OK {
		return survey{}, e
	}
	s := survey{pages: map[int]struct{}{}}
	var todo []spot
	if root := x.Root(); root != 0 {
		todo = append(todo, spot{id: root, depth: 1})
	}
	for len(todo) > 0 {
		at := todo[len(todo)-1]
		below, e := x.visit(&s, at)
		if e != api.OK {
			return survey{}, e
		}
		todo = append(todo[:len(todo)-1], below...)
	}
	return s, api.OK
}

// visit looks at one node, and tells the spots below it.
func (x *Tree) visit(s *survey, at spot) ([]spot, api.Errno) {
	n, e := x.Node(at.id)
	switch {
	case e != api.OK:
		return nil, e
	case !s.meet(at.id):
		return nil, api.ErrForm
	case n.Leaf:
		return nil, x.visitLeaf(s, at, n)
	}
	return branchSpots(at, n)
}

// visitLeaf looks at a leaf, and at the chains of its cells.
func (x *Tree) visitLeaf(s *survey, at spot, n api.Node) api.Errno {
	if s.height != 0 && s.height != at.depth {
		return api.ErrForm
	}
	s.height = at.depth
	for _, c := range n.Cells {
		links, e := x.chain(c)
		if e != api.OK {
			return e
		}
		for _, l := range links {
			if !s.meet(l.id) {
				return api.ErrForm
			}
		}
		if !at.has(c.Key) {
			return api.ErrForm
		}
	}
	return api.OK
}

// branchSpots tells the spots of a branch's kids: each key bounds those on both its sides.
func branchSpots(at spot, n api.Node) ([]spot, api.Errno) {
	below := make([]spot, len(n.Kids))
	for i := range n.Kids {
		below[i] = spot{n.Kids[i], at.depth + 1, at.low, at.high}
	}
	for i, key := range n.Keys {
		if !at.has(key) {
			return nil, api.ErrForm
		}
		below[i].high, below[i+1].low = key, key
	}
	return below, api.OK
}

// has tells whether a key lies within a spot's bounds.
func (at spot) has(key string) bool {
	return key >= at.low && (at.high == "" || key < at.high)
}

// meet notes a page, and tells whether that was the first time.
func (s *survey) meet(id int) bool {
	before := len(s.pages)
	s.pages[id] = struct{}{}
	return len(s.pages) > before
}
