package remote

import (
	"fmt"
	"math"
	"math/rand/v2"
	"slices"
	"strings"
	"testing"

	"aquifer/api"
)

func oneOf[T any](r *rand.Rand, l []T) T {
	return l[r.IntN(len(l))]
}

// anyPath tells a file's path, most often one of few.
func anyPath(r *rand.Rand) string {
	switch r.IntN(20) {
	case 0:
		return oneOf(r, []string{"", "a", "A", "a.x/b", "a/b/c/d/e/f/g/h/i.x", strings.Repeat("a", 97)})
	case 1, 2, 3, 4:
		return oneOf(r, []string{"a", "b", "a/b", "a-"}) + "/" + oneOf(r, []string{"a.x", "b.x", "c.x", "a-.x"})
	}
	return oneOf(r, []string{"a.x", "b.x", "c.x", "d/a.x", "d/b.x", "a/a.x"})
}

// anyCall tells a change, of which most are not refused.
func anyCall(r *rand.Rand, p plain) call {
	c := call{op: oneOf(r, []string{"Put", "Put", "Link", "Delete"}), path: anyPath(r)}
	c.base = p.now(c.path)
	if r.IntN(8) == 0 {
		c.base = r.IntN(len(p.done)+3) - 1
	}
	if r.IntN(3) == 0 {
		c.token = oneOf(r, []int{-1, math.MaxInt, math.MinInt, 1 + r.IntN(30), 100 + r.IntN(1000), 100 + r.IntN(1000), 100 + r.IntN(1000)})
	}
	switch c.op {
	case "Put":
		c.data = textOf(oneOf(r, []int{0, 1, 2, 3, 63, 64, 65, 300, 4096, 4097, r.IntN(200)}))
	case "Link":
		c.from = r.IntN(len(p.done)+3) - 1
	}
	return c
}

// P19.5: behind any calls all answers are what they are to be, each version has what it had, and the feed tells All.
func TestAnyCalls(t *testing.T) {
	for seed := range uint64(12) {
		r := rand.New(rand.NewPCG(19, seed))
		b := made(t, []int{0, 100, 5000, 20000, 1 << 20, math.MaxInt}[seed%6])
		var had []string
		for turn := range 400 {
			c := anyCall(r, b.p)
			before := b.s.Last()
			b.any(c)
			if b.s.Last() > before {
				had = append(had, b.told(b.s.Last()))
			}
			if turn%20 == 0 {
				b.want(c.String())
			}
			b.wantFeed(c.String(), r.IntN(len(had)+3)-1, r.IntN(18))
			b.wantNow(c.String(), c.path)
		}
		b.want("the end")
		for n := range had {
			if now := b.told(n + 1); now != had[n] {
				t.Errorf("seed %d: version %d was %.100q, and is %.100q", seed, n+1, had[n], now)
			}
		}
		b.wantFeedIsAll(1 + int(seed)%16)
	}
}

// told tells all that is told of a version, as a text.
func (b *pair) told(n int) string {
	c, e := b.s.Get(n)
	d, dataE := b.s.Data(n)
	return fmt.Sprintf("%+v %d %q %d", c, int(e), d, int(dataE))
}

// wantFeedIsAll fails, if what comes of the feed, done change by change, is not what All tells.
func (b *pair) wantFeedIsAll(most int) {
	b.t.Helper()
	files := map[string]api.Change{}
	for cursor := 0; cursor < b.s.Last(); {
		l, e := b.s.Feed(cursor, most)
		if e != api.OK || len(l) == 0 {
			b.t.Fatalf("Feed(%d, %d): %v, error %d", cursor, most, l, int(e))
		}
		for _, c := range l {
			cursor = c.Version
			files[c.Path] = c
			if c.Gone {
				delete(files, c.Path)
			}
		}
	}
	all := b.s.All()
	if len(all) != len(files) || slices.ContainsFunc(all, func(c api.Change) bool { return files[c.Path] != c }) {
		b.t.Fatalf("the feed tells %v, All %v", files, all)
	}
}
