package inode

import (
	"math"
	"math/rand/v2"
	"regexp"
	"slices"
	"strings"
	"testing"

	"aquifer/api"
)

// What the document says of paths, inodes and records, told another way: all tests hold the program against this.

var (
	dirName  = regexp.MustCompile(`^[a-z0-9_~-]{1,24}$`)
	fileName = regexp.MustCompile(`^[a-z0-9_~-]+\.[a-z0-9_~-]+$`)
)

// plainIsPath tells whether names make a path together.
func plainIsPath(names []string) bool {
	for i, name := range names {
		asFile := i == len(names)-1 && len(name) <= 24 && fileName.MatchString(name)
		if !asFile && !dirName.MatchString(name) {
			return false
		}
	}
	return len(names) <= 8 && len(strings.Join(names, "/")) <= 96
}

// plainPath tells the path that a key is of, and whether it is of one.
func plainPath(key []api.Part) (string, bool) {
	var names []string
	for _, part := range key {
		if part.Kind != 2 || part.N != 0 {
			return "", false
		}
		names = append(names, part.S)
	}
	if !plainIsPath(names) {
		return "", false
	}
	return strings.Join(names, "/"), true
}

const greatest = 1 << 40 // MaxTime

// plainMay tells whether an inode may be.
func plainMay(n api.Inode) bool {
	var none [32]byte
	switch n.Kind {
	case 1:
		return n.Size == 0 && n.Sum == none && n.Content == 0 && n.Version == 0 && n.Opened == 0
	case 2:
		for _, stamp := range []int{n.Content, n.Version, n.Opened} {
			if stamp < 0 || stamp > greatest {
				return false
			}
		}
		return n.Size >= 0 && n.Size <= 4096 && (n.Content > 0 || n.Version > 0)
	}
	return false
}

// plainRecord tells the record of an inode, or what it would be if that might be: all six fields, less those that it has not.
func plainRecord(n api.Inode) []api.Field {
	all := []api.Field{
		{Tag: 1, N: n.Kind}, {Tag: 2, N: n.Size}, {Tag: 3, Kind: 1, S: string(n.Sum[:])},
		{Tag: 4, N: n.Content}, {Tag: 5, N: n.Version}, {Tag: 6, N: n.Opened},
	}
	return slices.DeleteFunc(all, func(f api.Field) bool {
		return f.Kind == 0 && f.N == 0 || f.Kind == 1 && n.Kind == 1 && n.Sum == [32]byte{}
	})
}

// plainMayArch tells whether that may be archived.
func plainMayArch(a api.Arch) bool {
	return a.Version >= 1 && a.Version <= greatest && a.Size >= 0 && a.Size <= 4096
}

// plainArchRecord tells the record of what is archived, or what it would be if that might be.
func plainArchRecord(a api.Arch) []api.Field {
	l := []api.Field{{Tag: 3, Kind: 1, S: string(a.Sum[:])}, {Tag: 5, N: a.Version}}
	if a.Size != 0 {
		l = slices.Insert(l, 0, api.Field{Tag: 2, N: a.Size})
	}
	return l
}

// read goes through fields whose tags rise, each of its own kind, and tells what each tag has; false, where one may not be.
func read(rec []api.Field) (nums [7]int, sum string, ok bool) {
	ahead := 0
	for _, f := range rec {
		if f.Tag <= ahead || f.Tag > 6 {
			return nums, "", false
		}
		ahead = f.Tag
		switch {
		case f.Tag == 3 && f.Kind == 1 && f.N == 0 && len(f.S) == 32:
			sum = f.S
		case f.Tag != 3 && f.Kind == 0 && f.N > 0 && f.S == "":
			nums[f.Tag] = f.N
		default:
			return nums, "", false
		}
	}
	return nums, sum, true
}

// plainInode tells the inode that a record is of, and whether it is of one.
func plainInode(rec []api.Field) (api.Inode, bool) {
	nums, sum, ok := read(rec)
	if !ok || (nums[1] == 2) != (sum != "") {
		return api.Inode{}, false
	}
	n := api.Inode{Kind: nums[1], Size: nums[2], Content: nums[4], Version: nums[5], Opened: nums[6]}
	if sum != "" {
		n.Sum = [32]byte([]byte(sum))
	}
	if !plainMay(n) {
		return api.Inode{}, false
	}
	return n, true
}

// plainArch tells what a record tells to be archived, and whether it does.
func plainArch(rec []api.Field) (api.Arch, bool) {
	nums, sum, ok := read(rec)
	if !ok || sum == "" || nums[1] != 0 || nums[4] != 0 || nums[6] != 0 {
		return api.Arch{}, false
	}
	a := api.Arch{Version: nums[5], Size: nums[2], Sum: [32]byte([]byte(sum))}
	if !plainMayArch(a) {
		return api.Arch{}, false
	}
	return a, true
}

// Numbers at the edges of what may be.
var (
	sizes  = []int{math.MinInt, -1, 0, 1, 4096, 4097, math.MaxInt}
	stamps = []int{math.MinInt, -1, 0, 1, greatest, greatest + 1, math.MaxInt}
	kinds  = []int{math.MinInt, -1, 0, 1, 2, 3, math.MaxInt}
	sums   = [][32]byte{{}, {1}, {31: 1}, full()}
)

func full() [32]byte {
	var sum [32]byte
	for i := range sum {
		sum[i] = byte(255 - i)
	}
	return sum
}

// inodes tells an inode of each choice among the edges.
func inodes() []api.Inode {
	var l []api.Inode
	for _, kind := range kinds {
		for _, size := range sizes {
			for _, content := range stamps {
				for _, version := range stamps {
					for _, opened := range stamps {
						sum := sums[len(l)%len(sums)]
						l = append(l, api.Inode{Kind: kind, Size: size, Sum: sum, Content: content, Version: version, Opened: opened})
					}
				}
			}
		}
	}
	return l
}

// archs tells what is archived, or may not be, of each choice among the edges.
func archs() []api.Arch {
	var l []api.Arch
	for _, version := range stamps {
		for _, size := range sizes {
			for _, sum := range sums {
				l = append(l, api.Arch{Version: version, Size: size, Sum: sum})
			}
		}
	}
	return l
}

// fixedRow is a row of numbers that is the same at each run.
func fixedRow(seed uint64) *rand.Rand {
	return rand.New(rand.NewPCG(seed, 17))
}

func oneOf[T any](r *rand.Rand, l []T) T {
	return l[r.IntN(len(l))]
}

// wantE demands an error, and that nothing is told beside it.
func wantE(t *testing.T, what any, got, want api.Errno, none bool) {
	t.Helper()
	if got != want {
		t.Fatalf("%+v: error %d, not %d", what, int(got), int(want))
	}
	if want != api.OK && !none {
		t.Fatalf("%+v: something is told beside the error %d", what, int(got))
	}
}
