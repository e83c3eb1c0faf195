package btree

import (
	"maps"
	"slices"

	"aquifer/api"
	"aquifer/slot"
)

// firstFresh is the number from which on a draft counts pages that are still to be had: no disk has as many.
const firstFresh = 1 << 30

// draft is what a change makes of a tree. All that the change must read is read while the draft is made: so an error leaves the transaction as it was.
type draft struct {
	tree  *Tree
	nodes map[int]api.Node
	links []link
	gone  []int // pages that the tree needs no more
	fresh int   // how many pages it needs anew
	root  int
}

// draftOf tells a draft in which nothing is changed.
func draftOf(x *Tree) *draft {
	return &draft{tree: x, nodes: map[int]api.Node{}, root: x.Root()}
}

// do lets n be the node at the end of a way, and all that comes of it.
func (d *draft) do(way []step, n api.Node) api.Errno {
	if e := d.change(way, n); e != api.OK {
		return e
	}
	if !d.isSound() {
		return api.ErrForm
	}
	return d.carryOut()
}

// change lets n be the node at the end of a way, and changes the nodes above it, up to one that is as it was.
func (d *draft) change(way []step, n api.Node) (e api.Errno) {
up:
	for i := len(way) - 1; e == api.OK; i-- {
		switch size := slot.Size(n); {
		case i == 0:
			e = d.crown(n)
			break up
		case len(n.Cells)+len(n.Kids) == 0:
			d.drop(way[i].id)
			at := way[i-1].at
			n, e = d.join(without(way[i-1].node, at), at-1)
		case size == 0:
			// A node below was split at a key that has no place here.
			e = api.ErrForm
		case size >= slot.Size(way[i].node) && size <= api.MaxBody:
			// One that has not become smaller has no more room for those beside it than it had.
			d.nodes[way[i].id] = n
			break up
		default:
			n, e = d.fit(way[i-1].node, way[i-1].at, n)
		}
	}
	return e
}

// crown takes what stands above the first node: if that was split there are two, and they need a first node of their own.
func (d *draft) crown(top api.Node) (e api.Errno) {
	if len(top.Keys) > 0 {
		d.root = d.add(top)
		return api.OK
	}
	d.root = 0
	for len(top.Kids) == 1 && e == api.OK {
		// A branch with one kid is not needed as the first node.
		if d.root != 0 {
			d.drop(d.root)
		}
		d.root = top.Kids[0]
		top, e = d.node(d.root)
	}
	return e
}

// fit lets n be the kid i of a branch: parted, if it has no room in a page, and joined with those beside it, if it has room for them. It tells the branch as it is then.
func (d *draft) fit(b api.Node, i int, n api.Node) (api.Node, api.Errno) {
	last := i
	if slot.Size(n) > api.MaxBody {
		// What has no room in a page has enough to be parted.
		left, right, key, _ := slot.Split(n)
		b = with(b, i, key, d.add(right))
		n, last = left, i+1
	}
	d.nodes[b.Kids[i]] = n
	b, e := d.join(b, last)
	if e != api.OK {
		return api.Node{}, e
	}
	return d.join(b, i-1)
}

// join lets the kid i of a branch and the next one be one, if there are both, and a page has room for them. It tells the branch as it is then.
func (d *draft) join(b api.Node, i int) (api.Node, api.Errno) {
	if i < 0 || i >= len(b.Keys) {
		return b, api.OK
	}
	left, e := d.node(b.Kids[i])
	if e != api.OK {
		return api.Node{}, e
	}
	right, e := d.node(b.Kids[i+1])
	if e != api.OK {
		return api.Node{}, e
	}
	whole, e := slot.Join(left, right, b.Keys[i])
	if e != api.OK || slot.Size(whole) > api.MaxBody {
		return b, api.OK
	}
	d.drop(b.Kids[i+1])
	// Where two branches met, the kids on both sides stand side by side now.
	whole, e = d.join(whole, len(left.Keys))
	if e != api.OK {
		return api.Node{}, e
	}
	d.nodes[b.Kids[i]] = whole
	return without(b, i+1), api.OK
}

// node tells a page's node, as the draft has it.
func (d *draft) node(id int) (api.Node, api.Errno) {
	if n, there := d.nodes[id]; there {
		return n, api.OK
	}
	// What is gone was another one's too: the pages are no tree.
	if slices.Contains(d.gone, id) {
		return api.Node{}, api.ErrForm
	}
	return d.tree.known(id)
}

// add tells the number of a new page that has that node.
func (d *draft) add(n api.Node) int {
	id := firstFresh + d.fresh
	d.fresh++
	d.nodes[id] = n
	return id
}

// drop lets a node's page go.
func (d *draft) drop(id int) {
	delete(d.nodes, id)
	d.gone = append(d.gone, id)
}

// cell tells the cell of a key with that value, which is laid into a chain, if the cell has no room for it.
func (d *draft) cell(key, val string) api.Cell {
	c := api.Cell{Key: key, Val: val}
	if slot.Check(api.Node{Leaf: true, Cells: []api.Cell{c}}) == api.OK {
		return c
	}
	first := firstFresh + d.fresh
	texts := parts(val)
	for i, text := range texts {
		d.links = append(d.links, link{first + i, first + i + 1, text})
	}
	d.fresh += len(texts)
	d.links[len(texts)-1].next = 0
	return api.Cell{Key: key, Over: first, Len: len(val)}
}

// letGo lets the pages of a cell's value go.
func (d *draft) letGo(c api.Cell) api.Errno {
	links, e := d.tree.chain(c)
	for _, l := range links {
		d.gone = append(d.gone, l.id)
	}
	return e
}

// isSound tells whether no page that goes is kept too. Otherwise two had it, and the pages were no tree.
func (d *draft) isSound() bool {
	return !slices.ContainsFunc(d.gone, func(id int) bool {
		_, kept := d.nodes[id]
		return kept
	})
}

// carryOut changes the transaction.
func (d *draft) carryOut() api.Errno {
	taken, e := d.take()
	if e != api.OK {
		return e
	}
	for _, id := range slices.Sorted(maps.Keys(d.nodes)) {
		body, _ := slot.Encode(settled(d.nodes[id], taken))
		if e := d.write(pageFor(id, taken), api.KdNode, body); e != api.OK {
			return e
		}
	}
	for _, l := range d.links {
		l.next = pageFor(l.next, taken)
		if e := d.write(pageFor(l.id, taken), api.KdOver, l.bytes()); e != api.OK {
			return e
		}
	}
	for _, id := range d.gone[min(d.fresh, len(d.gone)):] {
		if e := d.tree.tx.Free(id); e != api.OK {
			return e
		}
	}
	if root := pageFor(d.root, taken); root != d.tree.Root() {
		return d.tree.tx.SetRoot(d.tree.root, root)
	}
	return api.OK
}

// take tells the pages that stand for those that are needed anew: first those that go, then others. If there are not enough of them, none is taken.
func (d *draft) take() ([]int, api.Errno) {
	taken := slices.Clone(d.gone[:min(d.fresh, len(d.gone))])
	from := len(taken)
	for len(taken) < d.fresh {
		id, e := d.tree.tx.Alloc()
		if e != api.OK {
			d.giveBack(taken[from:])
			if e == api.ErrFull {
				d.tree.tx.Spoil()
			}
			return nil, e
		}
		taken = append(taken, id)
	}
	return taken, api.OK
}

// giveBack lets pages be free again. The one that was taken last goes first, so that they are free in the order in which they were.
func (d *draft) giveBack(ids []int) {
	for _, id := range slices.Backward(ids) {
		d.tree.tx.Free(id)
	}
}

// write writes a page, if it has something else.
func (d *draft) write(id, kind int, body string) api.Errno {
	if is, has, e := d.tree.tx.Read(id); e == api.OK && is == kind && has == body {
		return api.OK
	}
	return d.tree.tx.Write(id, kind, body)
}

// pageFor tells the page that stands for a number of a draft.
func pageFor(id int, taken []int) int {
	if id < firstFresh {
		return id
	}
	return taken[id-firstFresh]
}

// settled tells a node with the pages that stand for the numbers of a draft.
func settled(n api.Node, taken []int) api.Node {
	n.Cells, n.Kids = slices.Clone(n.Cells), slices.Clone(n.Kids)
	for i := range n.Cells {
		n.Cells[i].Over = pageFor(n.Cells[i].Over, taken)
	}
	for i := range n.Kids {
		n.Kids[i] = pageFor(n.Kids[i], taken)
	}
	return n
}

// namesFresh tells whether a node names a page by a number that stands for a new one.
func namesFresh(n api.Node) bool {
	return slices.ContainsFunc(n.Kids, isFresh) || slices.ContainsFunc(n.Cells, func(c api.Cell) bool { return isFresh(c.Over) })
}

func isFresh(id int) bool {
	return id >= firstFresh
}

// with tells a branch with a kid more, behind its kid i, and a key between them.
func with(b api.Node, i int, key string, kid int) api.Node {
	b.Keys = slices.Insert(slices.Clone(b.Keys), i, key)
	b.Kids = slices.Insert(slices.Clone(b.Kids), i+1, kid)
	return b
}

// without tells a branch without its kid i, and without a key beside it.
func without(b api.Node, i int) api.Node {
	b.Kids = slices.Delete(slices.Clone(b.Kids), i, i+1)
	if len(b.Keys) > 0 {
		at := max(i-1, 0)
		b.Keys = slices.Delete(slices.Clone(b.Keys), at, at+1)
	}
	return b
}
