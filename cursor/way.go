package cursor

import (
	"slices"

	"aquifer/api"
	"aquifer/btree"
	"aquifer/slot"
)

// bounds are where keys may stand: not below low, and below high, if that is not empty.
type bounds struct{ low, high string }

// step is a node on the way to an entry.
type step struct {
	node api.Node
	in   bounds // of the node's keys
	at   int    // the place where the way goes on: that of a kid, or of a cell
}

// move is how a way to one entry becomes the way to another one.
type move struct {
	tree  *btree.Tree
	by    int                  // to which side, where a node is left: 1, or -1
	enter func(n api.Node) int // the place at which a node is entered
	met   map[int]struct{}     // the pages that were entered: none is entered twice, and so the move ends
	depth int                  // of the leaves on the way; 0: none was met yet
}

// forward is the move to the first entry behind a way's end whose key is not below key.
func forward(x *btree.Tree, key string) *move {
	return &move{tree: x, by: 1, met: map[int]struct{}{}, enter: func(n api.Node) int {
		at, _ := slot.Find(n, key)
		return at
	}}
}

// backward is the move to the last entry ahead of a way's end.
func backward(x *btree.Tree) *move {
	return &move{tree: x, by: -1, met: map[int]struct{}{}, enter: func(n api.Node) int {
		return width(n) - 1
	}}
}

// from tells the way to where the move leads from a way's end. That behind the last entry has no steps, and so the move begins at the first node. The way itself stays as it is: an error must leave the cursor where it stands.
func (m *move) from(way []step) ([]step, api.Errno) {
	if len(way) == 0 {
		return m.fromTop()
	}
	if e := ready(m.tree); e != api.OK {
		return nil, e
	}
	m.depth = len(way)
	way = slices.Clone(way)
	way[len(way)-1].at += m.by
	return m.settle(way)
}

// fromTop tells the way to where the move leads from the first node on.
func (m *move) fromTop() ([]step, api.Errno) {
	if e := ready(m.tree); e != api.OK {
		return nil, e
	}
	root := m.tree.Root()
	if root == 0 {
		return nil, api.OK
	}
	way, e := m.down(nil, root, bounds{})
	if e != api.OK {
		return nil, e
	}
	return m.settle(way)
}

// settle shortens and lengthens a way till it ends at a cell; without one to that side no step is left.
func (m *move) settle(way []step) ([]step, api.Errno) {
	for len(way) > 0 {
		last := way[len(way)-1]
		switch {
		case last.at < 0 || last.at >= width(last.node):
			way = m.up(way)
		case last.node.Leaf:
			return way, api.OK
		default:
			longer, e := m.down(way, last.node.Kids[last.at], last.kidBounds())
			if e != api.OK {
				return nil, e
			}
			way = longer
		}
	}
	return nil, api.OK
}

// up shortens a way by its last step, and lets the one above go on to the side.
func (m *move) up(way []step) []step {
	way = way[:len(way)-1]
	if len(way) > 0 {
		way[len(way)-1].at += m.by
	}
	return way
}

// down lengthens a way by a page's node. What is no tree is refused as soon as it is met: entries would be told twice, or out of their order, or without an end.
func (m *move) down(way []step, id int, in bounds) ([]step, api.Errno) {
	n, e := m.tree.Node(id)
	switch {
	case e != api.OK:
		return nil, e
	case !m.meet(id) || !in.hold(n) || n.Leaf && !m.liesDeep(len(way)+1):
		return nil, api.ErrForm
	}
	return append(way, step{n, in, m.enter(n)}), api.OK
}

// meet notes a page, and tells whether that was the first time.
func (m *move) meet(id int) bool {
	before := len(m.met)
	m.met[id] = struct{}{}
	return len(m.met) > before
}

// liesDeep notes how deep a leaf lies, and tells whether that is as deep as those ahead of it.
func (m *move) liesDeep(depth int) bool {
	if m.depth == 0 {
		m.depth = depth
	}
	return m.depth == depth
}

// kidBounds tells the bounds of the kid where the way goes on.
func (s step) kidBounds() bounds {
	in := s.in
	if s.at > 0 {
		in.low = s.node.Keys[s.at-1]
	}
	if s.at < len(s.node.Keys) {
		in.high = s.node.Keys[s.at]
	}
	return in
}

// hold tells whether all keys of a node stand within bounds.
func (in bounds) hold(n api.Node) bool {
	for _, c := range n.Cells {
		if !in.has(c.Key) {
			return false
		}
	}
	return !slices.ContainsFunc(n.Keys, func(key string) bool { return !in.has(key) })
}

func (in bounds) has(key string) bool {
	return key >= in.low && (in.high == "" || key < in.high)
}

// width tells how many places a node has.
func width(n api.Node) int {
	if n.Leaf {
		return len(n.Cells)
	}
	return len(n.Kids)
}

// ready tells OK, if the tree can be asked. An empty one has no page of which it could tell an error; page 0, which is no node of any, is refused last of all.
func ready(x *btree.Tree) api.Errno {
	if _, e := x.Node(0); e != api.ErrForm {
		return e
	}
	return api.OK
}
