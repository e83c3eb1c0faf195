package slot

import (
	"math"
	"strings"

	"aquifer/api"
)

// Split parts a node in two; what is from key on stands in the right one.
func Split(n api.Node) (left, right api.Node, key string, e api.Errno) {
	if Check(n) != api.OK {
		return api.Node{}, api.Node{}, "", api.ErrArg
	}
	k, there := evenPlace(sizesOf(n), keysBetween(n))
	switch {
	case !there:
		return api.Node{}, api.Node{}, "", api.ErrArg
	case n.Leaf:
		left = api.Node{Leaf: true, Cells: n.Cells[:k:k]}
		right = api.Node{Leaf: true, Cells: n.Cells[k:]}
		key = right.Cells[0].Key
	default:
		left = api.Node{Keys: n.Keys[:k:k], Kids: n.Kids[: k+1 : k+1]}
		right = api.Node{Keys: n.Keys[k+1:], Kids: n.Kids[k+1:]}
		key = n.Keys[k]
	}
	return own(left), own(right), strings.Clone(key), api.OK
}

// Join tells one node of two that stand side by side, with key between them, if they are branches.
func Join(left, right api.Node, key string) (api.Node, api.Errno) {
	if Check(left) != api.OK || Check(right) != api.OK || left.Leaf != right.Leaf {
		return api.Node{}, api.ErrArg
	}
	if !left.Leaf && !isKey(key) {
		return api.Node{}, api.ErrArg
	}
	n := api.Node{Leaf: left.Leaf, Cells: appended(left.Cells, right.Cells), Kids: appended(left.Kids, right.Kids)}
	if !n.Leaf {
		n.Keys = spliced(appended(left.Keys, right.Keys), len(left.Keys), len(left.Keys), key)
	}
	if !rise(keysOf(n)) {
		return api.Node{}, api.ErrArg
	}
	return own(n), api.OK
}

// keysBetween tells how many keys stand in neither part, when such a node is split.
func keysBetween(n api.Node) int {
	if n.Leaf {
		return 0
	}
	return 1
}

// evenPlace tells how many of these sizes the left part has, so that the greater part is least, and whether both parts can have one.
func evenPlace(sizes []int, between int) (place int, there bool) {
	whole, left, least := sum(sizes), 0, math.MaxInt
	for i := range len(sizes) - 1 - between {
		left += sizes[i]
		right := whole - left - sum(sizes[i+1:i+1+between])
		// Of places that are alike the first one stays.
		if greater := max(left, right); greater < least {
			place, least = i+1, greater
		}
	}
	return place, place > 0
}

func sum(l []int) int {
	n := 0
	for _, x := range l {
		n += x
	}
	return n
}
