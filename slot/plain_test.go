package slot

import (
	"bytes"
	"encoding/binary"
	"fmt"
	"math"
	"math/rand/v2"
	"slices"
	"strings"
	"testing"
	"unsafe"

	"aquifer/api"
)

// What the document says of nodes, told without the program's own words: all tests hold the program against this.

// plainMay tells whether a node may be.
func plainMay(n api.Node) bool {
	var keys []string
	if n.Leaf {
		if n.Keys != nil && len(n.Keys) != 0 || n.Kids != nil && len(n.Kids) != 0 {
			return false
		}
		for _, c := range n.Cells {
			keys = append(keys, c.Key)
			inside := c.Over == 0 && c.Len == 0 && len(c.Key)+len(c.Val) <= 157
			outside := 1 <= c.Over && c.Over <= 1<<31-1 && 0 <= c.Len && c.Len <= 1<<14 && c.Val == ""
			if !inside && !outside {
				return false
			}
		}
	} else {
		if len(n.Cells) != 0 || len(n.Kids) != len(n.Keys)+1 {
			return false
		}
		keys = n.Keys
		for _, id := range n.Kids {
			if id < 1 || id > 1<<31-1 {
				return false
			}
		}
	}
	for _, k := range keys {
		if len(k) < 1 || len(k) > 140 {
			return false
		}
	}
	sorted := slices.Compact(slices.Sorted(slices.Values(keys)))
	return len(keys) <= 255 && slices.Equal(sorted, keys)
}

// plainBytes tells the bytes of a node that may be, however many they are.
func plainBytes(n api.Node) string {
	var b bytes.Buffer
	four := func(x int) { b.Write(binary.LittleEndian.AppendUint32(nil, uint32(x))) }
	if n.Leaf {
		fmt.Fprintf(&b, "\x01%s", string([]byte{byte(len(n.Cells))}))
		for _, c := range n.Cells {
			b.WriteByte(byte(len(c.Key)))
			b.WriteString(c.Key)
			if c.Over > 0 {
				b.WriteByte(1)
				four(c.Len)
				four(c.Over)
				continue
			}
			b.WriteByte(0)
			b.WriteByte(byte(len(c.Val)))
			b.WriteString(c.Val)
		}
		return b.String()
	}
	b.Write([]byte{2, byte(len(n.Keys))})
	four(n.Kids[0])
	for i, k := range n.Keys {
		b.WriteByte(byte(len(k)))
		b.WriteString(k)
		four(n.Kids[i+1])
	}
	return b.String()
}

// plainNode reads a node; if there are too few bytes it panics, as a slice does.
func plainNode(s string) (n api.Node) {
	four := func() int {
		x := int(binary.LittleEndian.Uint32([]byte(s[:4])))
		s = s[4:]
		return x
	}
	text := func() string {
		x := s[1 : 1+int(s[0])]
		s = s[1+len(x):]
		return x
	}
	mark, count := s[0], int(s[1])
	s = s[2:]
	if mark == 2 {
		n.Kids = []int{four()}
		for len(n.Keys) < count {
			n.Keys, n.Kids = append(n.Keys, text()), append(n.Kids, four())
		}
		return n
	}
	n.Leaf = true
	for len(n.Cells) < count {
		c := api.Cell{Key: text()}
		inside := s[0] == 0
		s = s[1:]
		if inside {
			c.Val = text()
		} else {
			c.Len, c.Over = four(), four()
		}
		n.Cells = append(n.Cells, c)
	}
	return n
}

// plainDecode tells the node that has those bytes, and whether there is one: it is read somehow, and held against what is written of it.
func plainDecode(s string) (n api.Node, there bool) {
	defer func() {
		if recover() != nil {
			n, there = api.Node{}, false
		}
	}()
	n = plainNode(s)
	if !plainMay(n) || plainBytes(n) != s {
		return api.Node{}, false
	}
	return n, true
}

// plainParts tells both parts of a node of which the left one has k cells or keys, and the key between them.
func plainParts(n api.Node, k int) (left, right api.Node, key string) {
	if n.Leaf {
		return api.Node{Leaf: true, Cells: n.Cells[:k]}, api.Node{Leaf: true, Cells: n.Cells[k:]}, n.Cells[k].Key
	}
	return api.Node{Keys: n.Keys[:k], Kids: n.Kids[:k+1]}, api.Node{Keys: n.Keys[k+1:], Kids: n.Kids[k+1:]}, n.Keys[k]
}

// plainSplit tells the parts of a node, by trying each place, and whether there is one.
func plainSplit(n api.Node) (left, right api.Node, key string, there bool) {
	last := len(n.Cells) - 1
	if !n.Leaf {
		last = len(n.Keys) - 2
	}
	if !plainMay(n) || last < 1 {
		return
	}
	least := math.MaxInt
	for k := last; k >= 1; k-- {
		l, r, between := plainParts(n, k)
		if size := max(len(plainBytes(l)), len(plainBytes(r))); size <= least {
			least, left, right, key, there = size, l, r, between, true
		}
	}
	return
}

// same tells whether two nodes are alike; a list without elements is nil or empty.
func same(a, b api.Node) bool {
	return a.Leaf == b.Leaf && slices.Equal(a.Cells, b.Cells) && slices.Equal(a.Keys, b.Keys) && slices.Equal(a.Kids, b.Kids)
}

// show tells a node's beginning.
func show(n api.Node) string {
	return fmt.Sprintf("%d cells, %d keys, %d kids: %.300v", len(n.Cells), len(n.Keys), len(n.Kids), n)
}

// cell tells a cell with its value.
func cell(key, val string) api.Cell {
	return api.Cell{Key: key, Val: val}
}

// over tells a cell whose value lies in pages.
func over(key string, id, length int) api.Cell {
	return api.Cell{Key: key, Over: id, Len: length}
}

// leaf tells a leaf of these cells.
func leaf(l ...api.Cell) api.Node {
	return api.Node{Leaf: true, Cells: l}
}

// bare tells a leaf of cells without values.
func bare(keys ...string) api.Node {
	n := leaf()
	for _, k := range keys {
		n.Cells = append(n.Cells, cell(k, ""))
	}
	return n
}

// branch tells a branch of these keys, with kids from 1 on.
func branch(keys ...string) api.Node {
	n := api.Node{Keys: keys, Kids: []int{1}}
	for i := range keys {
		n.Kids = append(n.Kids, i+2)
	}
	return n
}

// with tells a branch with other kids.
func with(n api.Node, kids ...int) api.Node {
	n.Kids = kids
	return n
}

// textOf tells n bytes that are not alike, and none of them a nought.
func textOf(n int) string {
	b := make([]byte, n)
	for i := range b {
		b[i] = byte((i*7+i/64+n)%255 + 1)
	}
	return string(b)
}

// rising tells n keys that rise, of two bytes each.
func rising(n int) []string {
	l := make([]string, n)
	for i := range l {
		l[i] = string([]byte{byte(i >> 8), byte(i)})
	}
	return l
}

// fixedRow tells numbers that are the same in each run.
func fixedRow() *rand.Rand {
	return rand.New(rand.NewPCG(11, 1))
}

// anyKeys tells at most n keys that rise, of at most most bytes.
func anyKeys(row *rand.Rand, n, most int) []string {
	l := make([]string, n)
	for i := range l {
		b := make([]byte, 1+row.IntN(most))
		for j := range b {
			b[j] = byte(row.IntN(3)) * 127
		}
		l[i] = string(b)
	}
	slices.Sort(l)
	return slices.Compact(l)
}

// anyLeaf tells a leaf of at most n cells.
func anyLeaf(row *rand.Rand, n, most int) api.Node {
	l := leaf()
	for _, k := range anyKeys(row, n, most) {
		if row.IntN(4) == 0 {
			l.Cells = append(l.Cells, over(k, 1+row.IntN(math.MaxInt32), row.IntN(16385)))
			continue
		}
		l.Cells = append(l.Cells, cell(k, textOf(row.IntN(158-len(k)))))
	}
	return l
}

// anyBranch tells a branch of at most n keys.
func anyBranch(row *rand.Rand, n, most int) api.Node {
	b := branch(anyKeys(row, n, most)...)
	for i := range b.Kids {
		b.Kids[i] = 1 + row.IntN(math.MaxInt32)
	}
	return b
}

// anyNodes tells many nodes that may be, some of which have more bytes than a page has room for.
func anyNodes() []api.Node {
	row := fixedRow()
	l := goodNodes()
	for i := range 400 {
		l = append(l, anyLeaf(row, i%14, 1+i%140), anyBranch(row, i%18, 1+i%140))
	}
	return l
}

// goodNodes tells nodes that may be, among them the least and the greatest.
func goodNodes() []api.Node {
	long, longer := strings.Repeat("k", 139), strings.Repeat("k", 140)
	return []api.Node{
		leaf(), bare("a"), bare("\x00"), bare("\x00", "\x00\x00", "\x01"), bare("a", "aa", "b"), bare("\xfe", "\xff"),
		leaf(cell("a", "x")), leaf(cell("a", textOf(156))), leaf(cell(longer, textOf(17))), leaf(cell(long, textOf(18)), cell(longer, "")),
		leaf(over("a", 1, 0)), leaf(over("a", math.MaxInt32, 16384)), leaf(over(longer, 0x01020304, 0x3ffe)),
		leaf(cell("a", "x"), over("b", 9, 500), cell("c", "\x00\x01\x02")),
		bare(rising(124)...), bare(rising(254)...), bare(rising(255)...),
		{Leaf: true, Cells: []api.Cell{}, Keys: []string{}, Kids: []int{}},
		with(branch(), 1), with(branch(), math.MaxInt32), with(branch(), 0x01020304), branch("a"), branch("\x00", "\x00\x00"), branch("a", "aa", "b"),
		with(branch("a", longer), 7, 7, 7), branch(long, longer), branch(rising(82)...), branch(rising(254)...), branch(rising(255)...),
		{Cells: []api.Cell{}, Keys: []string{}, Kids: []int{3}},
		with(branch("m"), math.MaxInt32, math.MaxInt32),
	}
}

// hidden tells the node in lists that have other things behind their length.
func hidden(n api.Node) api.Node {
	return api.Node{
		Leaf:  n.Leaf,
		Cells: append(slices.Clone(n.Cells), cell("", "no"), over("no", -1, -1), cell("no", "no"))[:len(n.Cells)],
		Keys:  append(slices.Clone(n.Keys), "", "no", "no", textOf(200))[:len(n.Keys)],
		Kids:  append(slices.Clone(n.Kids), 0, -1, 99, 98)[:len(n.Kids)],
	}
}

// stay calls f with the node, and fails, if it is another one then, or something was written behind its lists.
func stay(t *testing.T, n api.Node, f func(n api.Node)) {
	t.Helper()
	given, kept := hidden(n), hidden(n)
	f(given)
	whole := func(n api.Node) api.Node {
		return api.Node{Leaf: n.Leaf, Cells: n.Cells[:len(n.Cells)+3], Keys: n.Keys[:len(n.Keys)+4], Kids: n.Kids[:len(n.Kids)+4]}
	}
	if !same(whole(given), whole(kept)) {
		t.Errorf("what was given is changed: %s, was %s", show(whole(given)), show(whole(kept)))
	}
}

// span is a piece of memory.
type span struct{ from, to uintptr }

// spansOf tells where a node's lists and texts lie, with the room behind the lists.
func spansOf(n api.Node) []span {
	var l []span
	add := func(p unsafe.Pointer, size uintptr) {
		if size > 0 {
			l = append(l, span{uintptr(p), uintptr(p) + size})
		}
	}
	text := func(s string) { add(unsafe.Pointer(unsafe.StringData(s)), uintptr(len(s))) }
	add(unsafe.Pointer(unsafe.SliceData(n.Cells)), uintptr(cap(n.Cells))*unsafe.Sizeof(api.Cell{}))
	add(unsafe.Pointer(unsafe.SliceData(n.Keys)), uintptr(cap(n.Keys))*unsafe.Sizeof(""))
	add(unsafe.Pointer(unsafe.SliceData(n.Kids)), uintptr(cap(n.Kids))*unsafe.Sizeof(0))
	for _, c := range n.Cells {
		text(c.Key)
		text(c.Val)
	}
	for _, k := range n.Keys {
		text(k)
	}
	return l
}

// wantApart fails, if a piece of one node's memory is another one's too.
func wantApart(t *testing.T, what any, nodes ...api.Node) {
	t.Helper()
	for i, a := range nodes {
		for _, b := range nodes[:i] {
			for _, x := range spansOf(a) {
				for _, y := range spansOf(b) {
					if x.from < y.to && y.from < x.to {
						t.Errorf("%v: memory is shared", what)
						return
					}
				}
			}
		}
	}
}

// fresh tells the same node in memory of its own, with texts that no other node has.
func fresh(n api.Node) api.Node {
	out := api.Node{Leaf: n.Leaf, Kids: slices.Clone(n.Kids)}
	for _, c := range n.Cells {
		c.Key, c.Val = strings.Clone(c.Key), strings.Clone(c.Val)
		out.Cells = append(out.Cells, c)
	}
	for _, k := range n.Keys {
		out.Keys = append(out.Keys, strings.Clone(k))
	}
	return out
}

// wantNode fails, if a node is another one.
func wantNode(t *testing.T, what any, got, want api.Node) {
	t.Helper()
	if !same(got, want) {
		t.Errorf("%v: %s; want %s", what, show(got), show(want))
	}
}
