package slot

import (
	"strings"

	"aquifer/api"
)

const (
	leafMark   = 1
	branchMark = 2
	plainMark  = 0 // behind a cell's key: its value follows
	overMark   = 1 // behind a cell's key: its value lies in other pages
	idSize     = 4 // bytes of a page's number, and of a length

	leafHead   = 2          // the mark, how many cells
	branchHead = 2 + idSize // the mark, how many keys, the first kid
	plainHead  = 3          // how many bytes the key has, the mark, how many the value has
	overHead   = 2 + 2*idSize
	keyHead    = 1 + idSize // how many bytes the key has, the kid behind it
)

// Size tells how many bytes a node has.
func Size(n api.Node) int {
	if Check(n) != api.OK {
		return 0
	}
	if n.Leaf {
		return leafHead + sum(sizesOf(n))
	}
	return branchHead + sum(sizesOf(n))
}

// Encode tells the bytes of a node.
func Encode(n api.Node) (string, api.Errno) {
	switch size := Size(n); {
	case size == 0:
		return "", api.ErrArg
	case size > api.MaxBody:
		return "", api.ErrLong
	case n.Leaf:
		return string(leafBytes(n)), api.OK
	}
	return string(branchBytes(n)), api.OK
}

// Decode tells the node that has those bytes.
func Decode(s string) (api.Node, api.Errno) {
	in := input{rest: s}
	n := in.node()
	if in.bad || in.rest != "" || Check(n) != api.OK {
		return api.Node{}, api.ErrForm
	}
	return n, api.OK
}

// sizesOf tells how many bytes each cell has, or each key with the kid behind it.
func sizesOf(n api.Node) []int {
	if n.Leaf {
		return each(n.Cells, cellSize)
	}
	return each(n.Keys, func(key string) int { return keyHead + len(key) })
}

func cellSize(c api.Cell) int {
	if c.Over == 0 {
		return plainHead + len(c.Key) + len(c.Val)
	}
	return overHead + len(c.Key)
}

func leafBytes(n api.Node) []byte {
	b := []byte{leafMark, byte(len(n.Cells))}
	for _, c := range n.Cells {
		b = appendText(b, c.Key)
		if c.Over == 0 {
			b = appendText(append(b, plainMark), c.Val)
		} else {
			b = appendFour(appendFour(append(b, overMark), c.Len), c.Over)
		}
	}
	return b
}

func branchBytes(n api.Node) []byte {
	b := appendFour([]byte{branchMark, byte(len(n.Keys))}, n.Kids[0])
	for i, key := range n.Keys {
		b = appendFour(appendText(b, key), n.Kids[i+1])
	}
	return b
}

// appendText writes a text behind its length, which is one byte: keys and values in cells are shorter than 256.
func appendText(b []byte, s string) []byte {
	return append(append(b, byte(len(s))), s...)
}

// appendFour writes a number as four bytes, the lowest first.
func appendFour(b []byte, x int) []byte {
	for i := range idSize {
		b = append(b, byte(x>>(8*i)))
	}
	return b
}

// input is bytes that are read from their front on. Once they fall short it is bad, and all that is read is nought.
type input struct {
	rest string
	bad  bool
}

func (in *input) node() api.Node {
	switch in.number(1) {
	case leafMark:
		return in.leaf()
	case branchMark:
		return in.branch()
	}
	// A branch without a kid, which may not be.
	return api.Node{}
}

func (in *input) leaf() api.Node {
	n := api.Node{Leaf: true}
	for range in.number(1) {
		n.Cells = append(n.Cells, in.cell())
	}
	return n
}

func (in *input) cell() api.Cell {
	c := api.Cell{Key: in.text()}
	switch in.number(1) {
	case plainMark:
		c.Val = in.text()
	case overMark:
		c.Len = in.number(idSize)
		c.Over = in.number(idSize)
		// Page 0 holds no value, and as a cell's Over it would say that there is no page.
		in.bad = in.bad || c.Over == 0
	default:
		in.bad = true
	}
	return c
}

func (in *input) branch() api.Node {
	var n api.Node
	keys := in.number(1)
	n.Kids = append(n.Kids, in.number(idSize))
	for range keys {
		n.Keys = append(n.Keys, in.text())
		n.Kids = append(n.Kids, in.number(idSize))
	}
	return n
}

// text reads a text behind its length.
func (in *input) text() string {
	return strings.Clone(in.cut(in.number(1)))
}

// number reads a number of so many bytes, the lowest first.
func (in *input) number(size int) int {
	x := 0
	s := in.cut(size)
	for i := range len(s) {
		x |= int(s[i]) << (8 * i)
	}
	return x
}

// cut takes n bytes off the front.
func (in *input) cut(n int) string {
	if in.bad || len(in.rest) < n {
		in.bad = true
		return ""
	}
	s := in.rest[:n]
	in.rest = in.rest[n:]
	return s
}
