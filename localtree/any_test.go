package localtree

import (
	"fmt"
	"maps"
	"math/rand/v2"
	"slices"
	"strings"
	"testing"

	"aquifer/api"
)

// anyPath tells a path, most often one of few, that may be there or not.
func anyPath(r *rand.Rand, p plain) string {
	there := append(p.paths(), "")
	switch r.IntN(8) {
	case 0, 1, 2, 3:
		return oneOf(r, there)
	case 4:
		return strings.TrimPrefix(oneOf(r, there)+"/"+oneOf(r, []string{"a", "b", "a.x", "b.x", "~", "ab", "lllllllllllllllllllllll"}), "/")
	case 5:
		return oneOf(r, []string{"a", "b", "a.x", "b.x", "a/a", "a/b", "b/a", "a/a.x", "b/a.x", "a/b/a.x"})
	case 6:
		return oneOf(r, []string{"c", "d.x", "c/c", "c/d.x", "c/c/c/d.x", "A", "a.x/b", "a/b/c/d/e/f/g/h/i"})
	}
	var names []string
	for range 1 + r.IntN(7) {
		names = append(names, oneOf(r, []string{"a", "b", "bbbbbbbbbbbbbbb"}))
	}
	return strings.Join(names, "/") + oneOf(r, []string{"", ".x"})
}

// anyNumber tells a version, a time, a number of a content.
func anyNumber(r *rand.Rand) int {
	return oneOf(r, []int{-1, 0, 1, 2, 3, 5, 1 << 20, 1 << 40, 1<<40 + 1})
}

// anySize tells a length of bytes.
func anySize(r *rand.Rand) int {
	return oneOf(r, []int{0, 0, 1, 2, 3, 63, 64, 65, 130, 700, 4096, 4097})
}

// anyCall tells a call, of which most are not refused.
func anyCall(r *rand.Rand, p plain) call {
	q := anyPath(r, p)
	switch r.IntN(14) {
	case 0:
		return oneOf(r, []call{stat(q), list(q), read(q), files(), hydrated()})
	case 1, 2:
		return mkdir(q)
	case 3, 4:
		return create(q, textOf(anySize(r)), max(0, anyNumber(r)))
	case 5, 6:
		return write(q, textOf(anySize(r)))
	case 7, 8:
		return rename(q, anyPath(r, p))
	case 9:
		return remove(q)
	case 10:
		return place(q, 1+r.IntN(9), min(4096, anySize(r)))
	case 11:
		return oneOf(r, []call{empty(q), mark(q, anyNumber(r)), touch(q, anyNumber(r))})
	case 12:
		return fill(q, anyNumber(r))
	}
	return oneOf(r, []call{mark(q, 1+r.IntN(9)), empty(q), mark(q, 1+r.IntN(9)), empty(q), remove(q)})
}

// giveAny gives a content for some placeholder, and fills it in; one of too few bytes is left without a file.
func (b *pair) giveAny(r *rand.Rand, without *[]int) {
	b.t.Helper()
	for _, q := range b.p.paths() {
		n := b.p.nodes[q]
		if n.Kind != 2 || n.Content != 0 || r.IntN(3) > 0 {
			continue
		}
		id := b.put(textOf(max(0, n.Size-r.IntN(2)*70)))
		if b.any(fill(q, id)) != api.OK {
			*without = append(*without, id)
		}
		return
	}
}

// P18.6: behind any calls the tree is sound, and as the calls have made it; what was committed is there, what was aborted is not.
func TestAnyCalls(t *testing.T) {
	for seed := range uint64(6) {
		r := fixedRow(seed)
		d := aDisk(t, madeLog+8*700)
		s := opened(t, d)
		b := paired(t, s, plain{})
		kept := b.p.copied()
		var without, keptWithout []int // contents that no file has
		for turn := range 700 {
			c := anyCall(r, b.p)
			// A content belongs to one file: one that another file has, or had, is not given to this one.
			if c.op == "Fill" && (c.n <= b.p.last && c.n > 0) {
				b.giveAny(r, &without)
			} else {
				b.any(c)
			}
			if turn%25 == 0 {
				b.want(c, without...)
			}
			switch r.IntN(60) {
			case 0:
				kept, keptWithout = b.commit(), slices.Clone(without)
			case 1:
				b.a.Abort()
				without = slices.Clone(keptWithout)
			case 2:
				kept, keptWithout = b.commit(), slices.Clone(without)
				d = copyOf(t, d)
				s = opened(t, d)
			default:
				continue
			}
			b = paired(t, s, kept)
			b.want(fmt.Sprint(seed, ", ", turn), without...)
		}
	}
}

// P18.1 to P18.5: what was done is read again in a transaction that is begun behind a Commit; behind an Abort nothing of it is.
func TestCommittedAndAborted(t *testing.T) {
	d := aDisk(t, madeLog+8*200)
	s := opened(t, d)
	b := paired(t, s, plain{})
	b.all(mkdir("d"), create("d/a.x", textOf(100), 1), place("e/p.x", 2, 64), create("c.x", "c", 3))
	b.a.Abort()
	b = paired(t, s, plain{})
	b.want("aborted")
	b.all(mkdir("d"), create("d/a.x", textOf(100), 1), place("e/p.x", 2, 64), create("c.x", "c", 3))
	p := b.commit()
	changes := map[string][]call{
		"Mkdir": {mkdir("d/d")}, "Create": {create("d/b.x", textOf(70), 4)}, "Write": {write("d/a.x", textOf(200))},
		"Rename": {rename("d", "e/d")}, "Remove": {remove("c.x")}, "Place": {place("d/a.x", 7, 8), place("f/g/h.x", 7, 8)},
		"Empty": {mark("d/a.x", 5), empty("d/a.x")}, "Mark": {mark("e/p.x", 9)}, "Touch": {touch("e/p.x", 9)},
	}
	for _, name := range slices.Sorted(maps.Keys(changes)) {
		calls := changes[name]
		b := paired(t, s, p)
		b.all(calls...).want(name)
		b.a.Abort()
		b = paired(t, s, p)
		b.want(name + ", aborted")
		b.all(calls...)
		other := opened(t, copyOf(t, d))
		c := paired(t, other, p)
		c.want(name + ", not committed")
		c.all(calls...)
		after := c.commit()
		c = paired(t, other, after)
		c.want(name + ", committed")
		b.a.Abort()
	}
	b = paired(t, s, p)
	id := b.put(textOf(64))
	b.all(fill("e/p.x", id)).want("Fill")
	p = b.commit()
	b = paired(t, opened(t, copyOf(t, d)), p)
	b.want("Fill, committed")
}
