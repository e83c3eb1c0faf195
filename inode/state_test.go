package inode

import (
	"math"
	"testing"

	"aquifer/api"
)

// P17.4: Hollow, Dirty and Like of files that may be.
func TestStates(t *testing.T) {
	hydrated := file()
	hollow := changed(func(n *api.Inode) { n.Content = 0 })
	own := changed(func(n *api.Inode) { n.Version = 0 })
	for i, x := range []struct {
		n             api.Inode
		a             api.Arch
		archived      bool
		hollow, dirty bool
	}{
		{hydrated, api.Arch{Version: 3}, true, false, false},
		{hydrated, api.Arch{Version: 3, Size: 4000, Sum: [32]byte{8}}, true, false, false}, // the version alone decides
		{hydrated, api.Arch{Version: 4}, true, false, true},
		{hydrated, api.Arch{Version: 2}, true, false, true},
		{hydrated, api.Arch{Version: 1 << 40}, true, false, true},
		{hydrated, api.Arch{}, true, false, true},
		{hydrated, api.Arch{}, false, false, true},
		{hydrated, api.Arch{Version: 3}, false, false, true},
		{hollow, api.Arch{Version: 3}, true, true, false},
		{hollow, api.Arch{Version: 4}, true, true, true},
		{hollow, api.Arch{}, false, true, true},
		{own, api.Arch{Version: 3}, true, false, true},
		{own, api.Arch{}, true, false, true},
		{own, api.Arch{}, false, false, true},
		{api.Inode{Kind: 2, Content: 3}, api.Arch{}, true, false, true}, // the chapter's example
		{hydrated, api.Arch{Version: -3}, true, false, true},
		{hydrated, api.Arch{Version: math.MinInt}, true, false, true},
		{hydrated, api.Arch{Version: math.MaxInt}, true, false, true},
		{hydrated, api.Arch{Version: 3, Size: -1}, true, false, false},
		{hydrated, api.Arch{Version: 3, Size: 4097}, true, false, false},
	} {
		if Hollow(x.n) != x.hollow || Dirty(x.n, x.a, x.archived) != x.dirty {
			t.Errorf("%d: %v, %v", i, Hollow(x.n), Dirty(x.n, x.a, x.archived))
		}
	}
}

// P17.4: of a directory, and of what may not be, nothing is told.
func TestStatesOfOthers(t *testing.T) {
	none := [32]byte{}
	for _, n := range []api.Inode{
		{}, {Kind: 1}, {Kind: 1, Version: 3}, {Kind: 1, Content: 3}, {Kind: 2}, {Kind: 3, Version: 3}, {Kind: -2, Version: 3},
		{Kind: 2, Version: 3, Size: -1}, {Kind: 2, Version: 3, Size: 4097}, {Kind: 2, Version: 3, Opened: -1}, {Kind: 2, Version: -3},
		{Kind: 2, Version: 3, Opened: 1<<40 + 1}, {Kind: 2, Version: 1<<40 + 1}, {Kind: 2, Version: 3, Content: -1},
		{Kind: 2, Version: 3, Content: 1<<40 + 1}, {Kind: 2, Opened: 1},
	} {
		for _, archived := range []bool{false, true} {
			for _, version := range []int{0, 3, 4, n.Version} {
				if Dirty(n, api.Arch{Version: version}, archived) {
					t.Errorf("%+v is dirty", n)
				}
			}
		}
		if Hollow(n) || Like(n, n.Size, none) {
			t.Errorf("%+v: hollow %v, like %v", n, Hollow(n), Like(n, n.Size, none))
		}
	}
}

// P17.4: at all edges the states are as the words have them.
func TestStatesAtTheEdges(t *testing.T) {
	const isFile = 2
	for _, n := range inodes() {
		may := n.Kind == isFile && plainMay(n)
		if Hollow(n) != (may && n.Content == 0) {
			t.Fatalf("Hollow(%+v) = %v", n, Hollow(n))
		}
		for _, version := range stamps {
			same := version == n.Version && version != 0
			if a := (api.Arch{Version: version}); Dirty(n, a, true) != (may && !same) || Dirty(n, a, false) != may {
				t.Fatalf("Dirty(%+v, %d): %v, %v", n, version, Dirty(n, a, true), Dirty(n, a, false))
			}
		}
		for _, size := range sizes {
			for _, sum := range sums {
				if Like(n, size, sum) != (may && size == n.Size && sum == n.Sum) {
					t.Fatalf("Like(%+v, %d, %v) = %v", n, size, sum, Like(n, size, sum))
				}
			}
		}
	}
}

// P17.4: Like holds the size and each byte of the digest against the file's.
func TestLike(t *testing.T) {
	n := file()
	if !Like(n, 5, n.Sum) || !Like(changed(func(n *api.Inode) { n.Content = 0 }), 5, n.Sum) {
		t.Error("a file is not like itself")
	}
	for _, size := range []int{math.MinInt, -5, -1, 0, 4, 6, 4096, 5 + 4096, math.MaxInt} {
		if Like(n, size, n.Sum) {
			t.Errorf("like at the size %d", size)
		}
	}
	for i := range n.Sum {
		sum := n.Sum
		sum[i] ^= 0x80
		if Like(n, 5, sum) {
			t.Errorf("like with another byte %d", i)
		}
	}
	if Like(api.Inode{Kind: 1}, 0, [32]byte{}) {
		t.Error("a directory is like a file")
	}
	if !Like(api.Inode{Kind: 2, Version: 1}, 0, [32]byte{}) {
		t.Error("a file of no byte, without a digest, is not like itself")
	}
}
