package btree

import (
	"fmt"
	"math"
	"slices"
	"strings"
	"testing"

	"aquifer/api"
	"aquifer/pagedb"
)

// P12.3: the chapter's example.
func TestExample(t *testing.T) {
	a := fresh(t, 20)
	b := paired(t, a, 0)
	told := func(height, pages int) {
		t.Helper()
		h, e := b.x.Height()
		p, f := b.x.Pages()
		if h != height || p != pages || e != api.OK || f != api.OK {
			t.Errorf("Height %d, %d, Pages %d, %d; want %d, %d", h, e, p, f, height, pages)
		}
	}
	told(0, 0)
	b.put("a", "x")
	b.put("b", "y")
	told(1, 1)
	b.want("a, b")
	b.drop("a")
	told(1, 1)
	b.drop("b")
	told(0, 0)
	b.want("none")
}

// P12.1: the numbers of roots, whatever the transaction is.
func TestOf(t *testing.T) {
	ended := fresh(t, 20)
	ended.Abort()
	for _, a := range []*pagedb.Tx{nil, {}, ended, fresh(t, 20)} {
		for root := -3; root <= 8; root++ {
			if x := Of(a, root); (x != nil) != (root >= 0 && root <= 3) {
				t.Errorf("Of(%d): %v", root, x)
			}
		}
		for _, root := range []int{math.MinInt, math.MaxInt, math.MinInt32, math.MaxInt32, 1 << 32, 1<<32 + 1, -1 << 32} {
			if x := Of(a, root); x != nil {
				t.Errorf("Of(%d): %v", root, x)
			}
		}
	}
}

// wantRefused fails, if a call tells another error than this, or something beside it.
func wantRefused(t *testing.T, what string, x *Tree, key, val string, want api.Errno) {
	t.Helper()
	if got, there, e := x.Get(key); got != "" || there || e != want {
		t.Errorf("%s: Get: %.40q, %v, %d; want %d", what, got, there, e, want)
	}
	wantE(t, what+": Put", x.Put(key, val), want)
	if there, e := x.Delete(key); there || e != want {
		t.Errorf("%s: Delete: %v, %d; want %d", what, there, e, want)
	}
}

// wantUntold fails, if a call that tells how a tree is, or what it is made of, tells anything but this error.
func wantUntold(t *testing.T, what string, x *Tree, want api.Errno) {
	t.Helper()
	if h, e := x.Height(); h != 0 || e != want {
		t.Errorf("%s: Height %d, %d", what, h, e)
	}
	if p, e := x.Pages(); p != 0 || e != want {
		t.Errorf("%s: Pages %d, %d", what, p, e)
	}
	wantE(t, what+": Check", x.Check(), want)
	for _, id := range []int{-1, 0, 1, 2, 99, math.MinInt, math.MaxInt} {
		if n, e := x.Node(id); !isNothing(n) || e != want {
			t.Errorf("%s: Node(%d): %v, %d", what, id, n, e)
		}
		for _, c := range []api.Cell{{}, {Key: "a", Val: "x"}, {Key: "a", Over: id, Len: 3}} {
			if s, e := x.Value(c); s != "" || e != want {
				t.Errorf("%s: Value(%v): %q, %d", what, c, s, e)
			}
		}
	}
}

func isNothing(n api.Node) bool {
	return !n.Leaf && len(n.Cells)+len(n.Keys)+len(n.Kids) == 0
}

// P12.1: what is no tree, and one whose transaction tells ErrNil, which stands ahead of all other errors.
func TestNoTree(t *testing.T) {
	db := made(t, 20)
	ended := begun(t, db)
	old := Of(ended, 1)
	wantE(t, "Put", old.Put("a", "x"), api.OK)
	wantE(t, "Commit", ended.Commit(), api.OK)
	let := begun(t, db)
	gone := Of(let, 1)
	let.Abort()
	open := begun(t, db)
	was := imageOf(open)
	for what, x := range map[string]*Tree{
		"nil":                         nil,
		"a root that is none":         Of(open, 4),
		"one that Of did not make":    {},
		"of no transaction":           Of(nil, 0),
		"of what Begin did not make":  Of(&pagedb.Tx{}, 0),
		"of one that was committed":   old,
		"of one that was let go":      gone,
		"of one that ended before Of": Of(ended, 1),
	} {
		for range 2 {
			for _, key := range []string{"", "a", "b", textOf(140), textOf(141)} {
				wantRefused(t, what, x, key, "x", api.ErrNil)
				wantE(t, what+": Put", x.Put(key, textOf(1<<14+1)), api.ErrNil)
			}
			wantUntold(t, what, x, api.ErrNil)
			if x.Root() != 0 {
				t.Errorf("%s: Root %d", what, x.Root())
			}
		}
	}
	wantSame(t, "calls of what is no tree", open, was)
	wantTree(t, "the open one", open, 1, map[string]string{"a": "x"})
}

// P12.2: keys and values of each length that is an edge.
func TestLengths(t *testing.T) {
	for _, key := range []int{0, 1, 2, 139, 140, 141, 142, 255, 256, 300, 1 << 16} {
		for _, val := range []int{0, 1, 16, 17, 18, 155, 156, 157, 158, 255, 256, 495, 496, 497, 500, 991, 992, 993, 1<<14 - 1, 1 << 14, 1<<14 + 1, 1 << 15, 1 << 20} {
			what := fmt.Sprintf("a key of %d bytes, a value of %d", key, val)
			a := fresh(t, 60)
			b := paired(t, a, 3)
			was := imageOf(a)
			switch {
			case key == 0:
				wantRefused(t, what, b.x, textOf(key), textOf(val), api.ErrArg)
				wantSame(t, what, a, was)
			case key > 140:
				wantRefused(t, what, b.x, textOf(key), textOf(val), api.ErrLong)
				wantSame(t, what, a, was)
			case val > 1<<14:
				wantE(t, what, b.x.Put(textOf(key), textOf(val)), api.ErrLong)
				wantSame(t, what, a, was)
			default:
				b.put(textOf(key), textOf(val))
				b.want(what)
				wantGets(t, what, b.x, b.has, "a", textOf(key)[:key-1]+"\xff")
				wantChain(t, what, b.x, key, val)
			}
		}
	}
}

// wantChain fails, if the value of a tree's only key lies elsewhere than the words have it.
func wantChain(t *testing.T, what string, x *Tree, key, val int) {
	t.Helper()
	n, e := x.Node(x.Root())
	if e != api.OK || !n.Leaf || len(n.Cells) != 1 {
		t.Fatalf("%s: %v, %d", what, n, e)
	}
	c := n.Cells[0]
	wantPages := 1
	if key+val > 157 {
		wantPages += (val + 495) / 496
	}
	if (c.Over > 0) != (key+val > 157) || c.Over > 0 && c.Len != val {
		t.Errorf("%s: %v", what, c)
	}
	if p, e := x.Pages(); p != wantPages || e != api.OK {
		t.Errorf("%s: Pages %d, %d, want %d", what, p, e, wantPages)
	}
}

// P12.2: a key that is put again, with each length of a value behind each other one.
func TestPutAgain(t *testing.T) {
	lengths := []int{0, 1, 2, 100, 155, 156, 157, 496, 497, 992, 993, 3000, 1 << 14}
	for _, others := range []int{0, 1, 40} {
		a := fresh(t, 200)
		b := paired(t, a, 0)
		for i := range others {
			b.put(fmt.Sprint("k", i), textOf(i*3))
		}
		for _, from := range lengths {
			for _, to := range lengths {
				b.put("b", textOf(from))
				b.put("b", textOf(to + 1)[1:])
				b.want(fmt.Sprint(others, " others, from ", from, " to ", to))
			}
		}
		wantGets(t, others, b.x, b.has, "a", "bb", "k", "z")
		b.drop("b")
		b.want("without it")
	}
}

// P12.2: a key that is put again with the value that it has changes no page.
func TestPutTheSame(t *testing.T) {
	db := made(t, 200)
	b := paired(t, begun(t, db), 0)
	for i := range 60 {
		b.put(numbered(i, 5+i), textOf(i*i/2))
	}
	wantE(t, "Commit", b.x.tx.Commit(), api.OK)
	a := begun(t, db)
	was := imageOf(a)
	for key, val := range b.has {
		wantE(t, "Put", Of(a, 0).Put(key, val), api.OK)
	}
	wantSame(t, "the same", a, was)
}

// P12.2: keys that are there, and others: ahead of all, behind all, between, longer and shorter ones.
func TestKeysThere(t *testing.T) {
	for _, many := range []int{0, 1, 2, 3, 50, 300} {
		a := fresh(t, 300)
		b := paired(t, a, 0)
		others := []string{"\x00", "a", "k", "k\x00", "z", "\xff", strings.Repeat("\xff", 140), strings.Repeat("\x00", 140)}
		for i := range many {
			key := fmt.Sprintf("k%04d", 2*i)
			b.put(key, fmt.Sprint(i))
			others = append(others, key[:4], key+"\x00", key+"a", fmt.Sprintf("k%04d", 2*i+1))
		}
		wantGets(t, many, b.x, b.has, others...)
		was := imageOf(a)
		for _, key := range others {
			b.drop(key)
		}
		wantSame(t, "Delete of what is not there", a, was)
		b.want(many)
	}
}

// orders tells the numbers below n in some orders.
func orders(n int) map[string][]int {
	row := fixedRow(12)
	all := map[string][]int{"mixed": row.Perm(n), "otherwise mixed": row.Perm(n)}
	for i := range n {
		all["rising"] = append(all["rising"], i)
		all["falling"] = append(all["falling"], n-1-i)
		all["from both ends"] = append(all["from both ends"], min(i, n-1-i)*(1-i%2)+(n-1-min(i, n-1-i))*(i%2))
		all["from the middle"] = append(all["from the middle"], (n/2+(i+1)/2*(1-i%2*2)+n)%n)
	}
	for what, l := range all {
		if what != "from both ends" && what != "from the middle" {
			continue
		}
		// Each number once, in the order in which it came first.
		var once []int
		for _, i := range append(l, all["rising"]...) {
			if !slices.Contains(once, i) {
				once = append(once, i)
			}
		}
		all[what] = once
	}
	return all
}

// P12.2, P12.3, P12.5: keys are put in each order, and deleted in each order, until none is left, and no page; how high the tree is and how many pages it has is told behind each.
func TestOrders(t *testing.T) {
	for name, size := range map[string]func(i int) (key, val int){
		"long keys":    func(i int) (int, int) { return 140, i % 18 },
		"short keys":   func(i int) (int, int) { return 5, 150 },
		"mixed":        func(i int) (int, int) { return 5 + i*37%136, i * 53 % 200 },
		"long values":  func(i int) (int, int) { return 6, i % 5 * 300 },
		"small ones":   func(i int) (int, int) { return 5, 0 },
		"rising sizes": func(i int) (int, int) { return 5 + i, i },
	} {
		const many = 60
		heights := map[int]bool{}
		for puts, first := range orders(many) {
			for drops, last := range orders(many) {
				db := made(t, 400)
				a := begun(t, db)
				b := paired(t, a, 2)
				what := fmt.Sprint(name, ", put ", puts, ", deleted ", drops)
				for _, i := range first {
					key, val := size(i)
					b.put(numbered(i, key), textOf(val))
					b.want(what)
				}
				for _, i := range last {
					h, _ := b.x.Height()
					heights[h] = true
					key, _ := size(i)
					b.drop(numbered(i, key))
					b.want(what)
				}
				if p, e := b.x.Pages(); p != 0 || e != api.OK || b.x.Root() != 0 {
					t.Errorf("%s: %d pages are left, root %d", what, p, b.x.Root())
				}
				wantE(t, what, a.Commit(), api.OK)
				if db.High()-1 != db.Free() {
					t.Errorf("%s: of %d pages %d are free", what, db.High()-1, db.Free())
				}
			}
		}
		if name == "long keys" && (!heights[1] || !heights[2] || !heights[3] || !heights[4]) {
			t.Errorf("heights %v", heights)
		}
	}
}

// P12.5: any calls: a tree is a map, in no more pages than it needs.
func TestAnyCalls(t *testing.T) {
	for seed := range uint64(12) {
		row := fixedRow(100 + seed)
		db := made(t, 900)
		a := begun(t, db)
		b := paired(t, a, int(seed%4))
		keys := 20 << (seed % 4)
		grow := 0
		for i := range 1200 {
			if i%150 == 0 {
				grow = row.IntN(9)
			}
			key := numbered(row.IntN(keys), 5)
			key += strings.Repeat("x", len(key)*int(seed)%136*(int(key[4])%2))
			switch kind := row.IntN(10); {
			case kind < grow:
				b.put(key, textOf(anyLength(row.IntN(1<<20))))
			default:
				b.drop(key)
			}
			if i%5 == 0 {
				b.want(fmt.Sprint("seed ", seed, " at ", i))
			}
			if i%40 == 0 {
				if e := a.Commit(); e == api.OK {
					a = begun(t, db)
					b.x = Of(a, b.x.root)
					wantTree(t, "committed", a, b.x.root, b.has)
					if p, _ := b.x.Pages(); p != db.High()-1-db.Free() {
						t.Fatalf("seed %d: %d pages, of which the tree has %d", seed, db.High()-1-db.Free(), p)
					}
					continue
				}
				t.Fatalf("seed %d: Commit", seed)
			}
		}
		wantGets(t, seed, b.x, b.has, "a", "0", "00007")
	}
}

// anyLength tells a value's length: most of them have room in a cell.
func anyLength(n int) int {
	switch n % 16 {
	case 0:
		return n / 16 % 1500
	case 1, 2, 3:
		return n / 16 % 160
	}
	return n / 16 % 20
}

// P12.5: keys of any bytes stand in the order of their bytes.
func TestAnyBytes(t *testing.T) {
	row := fixedRow(7)
	a := fresh(t, 900)
	b := paired(t, a, 0)
	for i := range 1500 {
		key := make([]byte, 1+row.IntN(6))
		for k := range key {
			key[k] = [...]byte{0, 1, 0x7f, 0x80, 0xfe, 0xff}[row.IntN(6)]
		}
		if row.IntN(3) == 0 {
			b.drop(string(key))
		} else {
			b.put(string(key), textOf(i%80))
		}
		if i%20 == 0 {
			b.want(i)
		}
	}
	wantGets(t, "any bytes", b.x, b.has, "\x02", "\x00\x02")
}

// P12.5: the trees at the four roots do not touch one another.
func TestSideBySide(t *testing.T) {
	row := fixedRow(4)
	db := made(t, 900)
	a := begun(t, db)
	var trees [4]pair
	for i := range trees {
		trees[i] = paired(t, a, i)
	}
	for i := range 900 {
		b := trees[row.IntN(4)]
		key := numbered(row.IntN(40), 5+b.x.root*40)
		if row.IntN(3) == 0 {
			b.drop(key)
		} else {
			b.put(key, fmt.Sprint(b.x.root, " ", textOf(anyLength(row.IntN(1<<20)))))
		}
		if i%10 != 0 {
			continue
		}
		sum := 0
		for _, b := range trees {
			b.want(i)
			p, _ := b.x.Pages()
			sum += p
		}
		wantAllPages(t, a, sum)
	}
	for _, b := range trees {
		wantGets(t, b.x.root, b.x, b.has, "a", "z")
	}
}

// wantAllPages fails, if not so many pages of a transaction are there.
func wantAllPages(t *testing.T, a *pagedb.Tx, want int) {
	t.Helper()
	there := 0
	for id := 1; ; id++ {
		_, _, e := a.Read(id)
		if e == api.ErrArg {
			break
		}
		if e == api.OK {
			there++
		}
	}
	if there != want {
		t.Fatalf("%d pages are there, the trees have %d", there, want)
	}
}

// P12.5: two trees at one root are one; each sees what was done by the other.
func TestTwoOfOneRoot(t *testing.T) {
	a := fresh(t, 300)
	b := paired(t, a, 1)
	second := Of(a, 1)
	for i := range 100 {
		b.put(numbered(i, 30), textOf(i*3))
		b.x, second = second, b.x
	}
	wantGets(t, "first", b.x, b.has)
	wantGets(t, "second", second, b.has)
	for i := range 100 {
		b.drop(numbered(i, 30))
		b.x, second = second, b.x
	}
	b.want("none")
}

// P12.2: what is let go by Abort was never there.
func TestAbort(t *testing.T) {
	db := made(t, 400)
	b := paired(t, begun(t, db), 0)
	for i := range 50 {
		b.put(numbered(i, 50), textOf(i*5))
	}
	wantE(t, "Commit", b.x.tx.Commit(), api.OK)
	a := begun(t, db)
	x := Of(a, 0)
	for i := range 50 {
		x.Delete(numbered(i, 50))
		x.Put(numbered(i+100, 50), textOf(1000))
	}
	a.Abort()
	wantTree(t, "let go", begun(t, db), 0, b.has)
}

// P12.5: a great tree, whose values lie in their cells and in chains.
func TestGreat(t *testing.T) {
	db := made(t, 8000)
	has := map[string]string{}
	a := begun(t, db)
	for i := range 8000 {
		key := numbered(i*7919%8000, 9)
		val := textOf(i % 40)
		if i%100 == 0 {
			val = textOf(1500)
		}
		wantE(t, i, Of(a, 0).Put(key, val), api.OK)
		has[key] = val
		if i%40 == 39 {
			wantE(t, "Commit", a.Commit(), api.OK)
			a = begun(t, db)
		}
	}
	wantTree(t, "great", a, 0, has)
	wantGets(t, "great", Of(a, 0), has, "0", "1", "99999")
	for i := range 8000 {
		key := numbered(i*4801%8000, 9)
		if there, e := Of(a, 0).Delete(key); !there || e != api.OK {
			t.Fatal(i, there, e)
		}
		delete(has, key)
		if i%25 == 24 {
			wantE(t, "Commit", a.Commit(), api.OK)
			a = begun(t, db)
		}
		if i%500 == 0 {
			wantTree(t, i, a, 0, has)
		}
	}
	wantTree(t, "none", a, 0, has)
}
