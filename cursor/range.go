package cursor

import (
	"iter"

	"aquifer/api"
	"aquifer/btree"
)

// Range goes over the entries whose keys are not below low, and below high; over all from low on, if high is empty.
func Range(x *btree.Tree, low, high string) iter.Seq2[string, string] {
	return func(yield func(key, val string) bool) {
		tell(x, low, high, yield)
	}
}

// All tells the entries of a range.
func All(x *btree.Tree, low, high string) ([]api.Entry, api.Errno) {
	var all []api.Entry
	var e api.Errno
	for key, val := range rangeUntil(x, low, high, &e) {
		all = append(all, api.Entry{Key: key, Val: val})
	}
	if e != api.OK {
		return nil, e
	}
	return all, api.OK
}

// Count tells how many entries a range has. Their values are read too: it tells an error wherever All does.
func Count(x *btree.Tree, low, high string) (int, api.Errno) {
	many := 0
	var e api.Errno
	for range rangeUntil(x, low, high, &e) {
		many++
	}
	if e != api.OK {
		return 0, e
	}
	return many, api.OK
}

// rangeUntil is a range that leaves in e what it ended ahead of.
func rangeUntil(x *btree.Tree, low, high string, e *api.Errno) iter.Seq2[string, string] {
	return func(yield func(key, val string) bool) {
		*e = tell(x, low, high, yield)
	}
}

// tell yields the entries of a range, and tells the error that it ended ahead of.
func tell(x *btree.Tree, low, high string, yield func(key, val string) bool) api.Errno {
	c, e := At(x, low)
	for e == api.OK && c.Valid() && (high == "" || c.Key() < high) {
		val, bad := c.Val()
		if bad != api.OK {
			return bad
		}
		if !yield(c.Key(), val) {
			return api.OK
		}
		e = c.Next()
	}
	return e
}
