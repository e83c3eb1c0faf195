package cursor

import (
	"fmt"
	"math"
	"strings"
	"testing"

	"aquifer/api"
	"aquifer/btree"
	"aquifer/pagedb"
)

// P13.1, P13.3, P13.4: the chapter's example.
func TestExample(t *testing.T) {
	m := grown(t, fresh(t, 20), 0, map[string]string{"a": "x", "c": "y", "e": "z"})
	c, e := At(m.x, "b")
	if e != api.OK || !c.Valid() || c.Key() != "c" {
		t.Fatalf("At(b): %v, %d", c, e)
	}
	wantE(t, "Next", c.Next(), api.OK)
	if val, e := c.Val(); c.Key() != "e" || val != "z" || e != api.OK {
		t.Errorf("Next: %q, %q, %d", c.Key(), val, e)
	}
	wantE(t, "Next", c.Next(), api.OK)
	if c.Valid() {
		t.Errorf("Next: %q", c.Key())
	}
	wantE(t, "Prev", c.Prev(), api.OK)
	if c.Key() != "e" {
		t.Errorf("Prev: %q", c.Key())
	}
	n := 0
	for key, val := range Range(m.x, "b", "e") {
		n++
		if key != "c" || val != "y" {
			t.Errorf("Range: %q, %q", key, val)
		}
	}
	if n != 1 {
		t.Errorf("Range: %d entries", n)
	}
}

// P13.2, P13.3: no cursor, and one that At did not make.
func TestNoCursor(t *testing.T) {
	for what, c := range map[string]*Cursor{"nil": nil, "one that At did not make": {}, "a new one": new(Cursor)} {
		for range 2 {
			val, e := c.Val()
			if c.Valid() || c.Key() != "" || val != "" || c.Depth() != 0 {
				t.Errorf("%s: %v, %q, %q, %d", what, c.Valid(), c.Key(), val, c.Depth())
			}
			wantE(t, what+": Val", e, api.ErrNil)
			wantE(t, what+": Next", c.Next(), api.ErrNil)
			wantE(t, what+": Prev", c.Prev(), api.ErrNil)
		}
	}
}

// P13.1, P13.4: no tree, one that Of did not make, and one whose transaction tells ErrNil.
func TestNoTree(t *testing.T) {
	db, _ := disked(t, 60)
	ended := begun(t, db)
	old := grown(t, ended, 1, map[string]string{"a": "x", "b": "y"})
	wantE(t, "Commit", ended.Commit(), api.OK)
	let := begun(t, db)
	gone := btree.Of(let, 1)
	let.Abort()
	open := begun(t, db)
	was := imageOf(open)
	for what, x := range map[string]*btree.Tree{
		"nil":                         nil,
		"a root that is none":         btree.Of(open, 4),
		"one that Of did not make":    {},
		"of no transaction":           btree.Of(nil, 0),
		"of what Begin did not make":  btree.Of(&pagedb.Tx{}, 0),
		"of one that was committed":   old.x,
		"of one that was let go":      gone,
		"of one that ended before Of": btree.Of(ended, 1),
		"of an empty one that ended":  btree.Of(ended, 2),
	} {
		for _, key := range []string{"", "a", "b", "c", textOf(140), textOf(141)} {
			wantNone(t, what, x, key, api.ErrNil)
			for _, high := range []string{"", "a", "b", "z"} {
				wantCut(t, what, x, key, high, nil, api.ErrNil)
			}
		}
	}
	wantSame(t, "calls of what is no tree", open, was)
	model{btree.Of(open, 1), old.entries, 1}.wantRange(t, "", "")
}

// P13.2, P13.3, P13.4: a transaction that ends beneath a cursor: the tree's error is told, and the cursor stays.
func TestEnded(t *testing.T) {
	for what, end := range map[string]func(a *pagedb.Tx){
		"Commit": func(a *pagedb.Tx) { wantE(t, "Commit", a.Commit(), api.OK) },
		"Abort":  func(a *pagedb.Tx) { a.Abort() },
	} {
		a := fresh(t, 60)
		m := grown(t, a, 0, many(30, 100, 0))
		var cursors []*Cursor
		for i := range 30 {
			c, _ := m.at(t, what, numbered(i, 100))
			cursors = append(cursors, c)
		}
		behind, _ := m.at(t, what, "z")
		seq := Range(m.x, "", "")
		told := 0
		for range seq {
			if told++; told == 11 {
				end(a)
			}
		}
		if told != 11 || len(gather(seq)) != 0 {
			t.Errorf("%s: %d were told", what, told)
		}
		for i, c := range cursors {
			for range 2 {
				wantE(t, what+": Next", c.Next(), api.ErrNil)
				wantE(t, what+": Prev", c.Prev(), api.ErrNil)
				if val, e := c.Val(); val != "" || e != api.ErrNil {
					t.Errorf("%s: Val: %q, %d", what, val, e)
				}
				if !c.Valid() || c.Key() != m.entries[i].Key || c.Depth() != m.height {
					t.Errorf("%s: it stands at %q", what, c.Key())
				}
			}
		}
		wantE(t, what+": Next behind the last one", behind.Next(), api.ErrState)
		wantE(t, what+": Prev behind the last one", behind.Prev(), api.ErrNil)
	}
}

// P13.1, P13.3, P13.4: a database that is lost.
func TestLost(t *testing.T) {
	db, d := disked(t, 60)
	a := begun(t, db)
	m := grown(t, a, 0, many(30, 100, 0))
	c, i := m.at(t, "ahead", numbered(5, 100))
	behind, _ := m.at(t, "ahead", "z")
	wantE(t, "Arm", d.Arm(0), api.OK)
	wantE(t, "Commit", a.Commit(), api.ErrDown)
	for _, root := range []int{0, 1} {
		wantNone(t, "lost", btree.Of(a, root), "", api.ErrDown)
		wantNone(t, "lost", btree.Of(a, root), "z", api.ErrDown)
	}
	wantE(t, "Next", c.Next(), api.ErrDown)
	wantE(t, "Prev", c.Prev(), api.ErrDown)
	wantE(t, "Next behind the last one", behind.Next(), api.ErrState)
	wantE(t, "Prev behind the last one", behind.Prev(), api.ErrDown)
	if val, e := c.Val(); val != "" || e != api.ErrDown || c.Key() != m.entries[i].Key {
		t.Errorf("Val: %q, %d", val, e)
	}
}

// many tells so many entries, with keys of a size, and values of some lengths up to one.
func many(n, key, val int) map[string]string {
	has := map[string]string{}
	for i := range n {
		has[numbered(i, key)] = textOf(i * 53 % (val + 1))
	}
	return has
}

// shapes tells entries of trees of many heights and kinds.
func shapes() map[string]map[string]string {
	lastByte, lengths, bytes := map[string]string{}, map[string]string{}, map[string]string{}
	for i := range 256 {
		lastByte[strings.Repeat("=", 139)+string([]byte{byte(i)})] = fmt.Sprint(i)
		bytes[string([]byte{byte(i)})] = textOf(i % 3)
	}
	for i := 1; i <= 140; i++ {
		lengths[strings.Repeat("a", i)] = textOf(i * 4)
	}
	return map[string]map[string]string{
		"none":                   {},
		"one":                    {"b": "x"},
		"one without a value":    {"b": ""},
		"one in a chain":         {"b": textOf(1000)},
		"the longest":            {strings.Repeat("m", 140): textOf(1 << 14)},
		"two":                    {"b": "x", "d": "y"},
		"a leaf":                 many(20, 5, 5),
		"a few leaves":           many(12, 140, 10),
		"three levels":           many(40, 140, 17),
		"more levels":            many(120, 140, 30),
		"short keys":             many(200, 5, 0),
		"mixed values":           many(60, 50, 700),
		"unlike in a last byte":  lastByte,
		"beginnings of one text": lengths,
		"keys of one byte":       bytes,
		"the least and the last": {"\x00": "a", strings.Repeat("\x00", 140): "b", strings.Repeat("\xff", 140): "c", "\xff": "d"},
	}
}

// eachShape does something to a tree of each shape.
func eachShape(t *testing.T, do func(t *testing.T, what string, m model)) {
	heights := map[int]bool{}
	for what, has := range shapes() {
		t.Run(what, func(t *testing.T) {
			a := fresh(t, 700)
			m := grown(t, a, len(what)%4, has)
			heights[m.height] = true
			was := imageOf(a)
			do(t, what, m)
			wantSame(t, what, a, was)
		})
	}
	for h := range 5 {
		if !heights[h] {
			t.Errorf("no tree was %d high", h)
		}
	}
}

// P13.1, P13.2: At of keys that are there, and of others; Depth at each entry, and behind the last one.
func TestAt(t *testing.T) {
	eachShape(t, func(t *testing.T, what string, m model) {
		for _, key := range m.probes() {
			m.at(t, what, key)
		}
	})
}

// P13.1, P13.2, P13.3: a tree without entries: the cursor stands behind the last one, and stays there.
func TestEmptyTree(t *testing.T) {
	a := fresh(t, 60)
	m := grown(t, a, 0, nil)
	for range 2 {
		for _, key := range []string{"", "a", textOf(140), textOf(141)} {
			c, i := m.at(t, "none", key)
			for range 3 {
				i = m.next(t, "none", c, i)
				i = m.prev(t, "none", c, i)
			}
		}
		m.wantRange(t, "", "")
		m.wantRange(t, "a", "b")
		for key := range many(30, 100, 0) {
			wantE(t, "Put", m.x.Put(key, ""), api.OK)
		}
		for key := range many(30, 100, 0) {
			_, e := m.x.Delete(key)
			wantE(t, "Delete", e, api.OK)
		}
	}
}

// P13.3, P13.5: from the first entry to behind the last one, once more, and back to the first one, once more, after which the cursor stays.
func TestThereAndBack(t *testing.T) {
	eachShape(t, func(t *testing.T, what string, m model) {
		c, i := m.at(t, what, "")
		for range 2 {
			for range len(m.entries) + 3 {
				i = m.next(t, what, c, i)
			}
			for range len(m.entries) + 3 {
				i = m.prev(t, what, c, i)
			}
		}
		if i != 0 {
			t.Errorf("%s: it stands at %d", what, i)
		}
	})
}

// P13.3, P13.5: at each entry, and behind the last one: Prev undoes Next, and Next undoes Prev, some steps far.
func TestUndo(t *testing.T) {
	eachShape(t, func(t *testing.T, what string, m model) {
		for first := range len(m.entries) + 1 {
			key := "\xff\xff"
			if first < len(m.entries) {
				key = m.entries[first].Key
			}
			if m.place(key) != first {
				key = strings.Repeat("\xff", 141)
			}
			for far := 1; far <= 4; far++ {
				c, i := m.at(t, what, key)
				for range far {
					i = m.next(t, what, c, i)
				}
				for range far {
					i = m.prev(t, what, c, i)
				}
				c, i = m.at(t, what, key)
				for range far {
					i = m.prev(t, what, c, i)
				}
				for range far {
					i = m.next(t, what, c, i)
				}
			}
		}
	})
}

// P13.3, P13.5: any moves.
func TestAnyMoves(t *testing.T) {
	eachShape(t, func(t *testing.T, what string, m model) {
		row := fixedRow(uint64(len(m.entries)))
		probes := m.probes()
		c, i := m.at(t, what, "")
		for k := range 600 {
			switch kind := row.IntN(40); {
			case kind == 0:
				c, i = m.at(t, what, probes[row.IntN(len(probes))])
			case kind < 20 == (k/100%2 == 0) || kind < 5:
				i = m.next(t, what, c, i)
			default:
				i = m.prev(t, what, c, i)
			}
		}
	})
}

// P13.3: cursors of one tree, and copies of a cursor, know nothing of one another.
func TestTwoCursors(t *testing.T) {
	m := grown(t, fresh(t, 200), 0, many(60, 120, 20))
	c, i := m.at(t, "one", "")
	d, k := m.at(t, "another", "\xff")
	for step := range 60 {
		i = m.next(t, "one", c, i)
		k = m.prev(t, "another", d, k)
		held := *c
		for range 5 {
			held.Next()
		}
		for range step {
			held.Prev()
		}
		m.wantAt(t, "one", c, i)
		m.wantAt(t, "another", d, k)
	}
}

// P13.1, P13.4: what lies at the other roots is not told.
func TestRoots(t *testing.T) {
	a := fresh(t, 200)
	var all []model
	for root := range 4 {
		has := map[string]string{}
		for i := range 10 * root {
			has[fmt.Sprint(root, "-", numbered(i, 60+root))] = fmt.Sprint(root)
		}
		all = append(all, grown(t, a, root, has))
	}
	for _, m := range all {
		m.wantRange(t, "", "")
		c, i := m.at(t, "roots", "")
		for range len(m.entries) + 1 {
			i = m.next(t, "roots", c, i)
		}
	}
}

// P13.5: a map beside a tree that is changed: behind each change each entry is told once, in order.
func TestAnyTrees(t *testing.T) {
	for seed := range uint64(8) {
		row := fixedRow(70 + seed)
		a := fresh(t, 900)
		has := map[string]string{}
		x := btree.Of(a, int(seed%4))
		for i := range 300 {
			key := numbered(row.IntN(90), 5)
			key += strings.Repeat("x", int(key[4])*int(seed+1)%136)
			if row.IntN(300) > i/2 {
				has[key] = textOf([]int{0, 1, 17, 100, 157, 496, 497, 1500}[row.IntN(8)])
				wantE(t, "Put", x.Put(key, has[key]), api.OK)
			} else {
				_, e := x.Delete(key)
				wantE(t, "Delete", e, api.OK)
				delete(has, key)
			}
			if i%3 > 0 {
				continue
			}
			h, _ := x.Height()
			m := model{x, listed(has), h}
			m.wantRange(t, "", "")
			m.wantRange(t, numbered(row.IntN(90), 6), numbered(row.IntN(90), 6))
			c, at := m.at(t, seed, numbered(row.IntN(95), 5))
			for range 12 {
				at = m.next(t, seed, c, at)
			}
			for range 24 {
				at = m.prev(t, seed, c, at)
			}
		}
	}
}

// P13.5: what was committed is told by the next transaction, and by one of a database that was opened anew.
func TestOpenedAnew(t *testing.T) {
	db, d := disked(t, 300)
	a := begun(t, db)
	m := grown(t, a, 0, many(60, 100, 800))
	wantE(t, "Commit", a.Commit(), api.OK)
	m.x = btree.Of(begun(t, db), 0)
	m.wantRange(t, "", "")
	db, e := pagedb.Open(d, logSize)
	wantE(t, "Open", e, api.OK)
	m.x = btree.Of(begun(t, db), 0)
	m.wantRange(t, "", "")
	c, i := m.at(t, "anew", "")
	for range 61 {
		i = m.next(t, "anew", c, i)
	}
}

// Rule 1: while the tree is changed nothing is promised but that calls end, and none panics.
func TestChangedBeneath(t *testing.T) {
	for seed := range uint64(60) {
		row := fixedRow(500 + seed)
		a := fresh(t, 600)
		m := grown(t, a, 0, many(40, 120, 300))
		var cursors []*Cursor
		for i := range 41 {
			c, _ := m.at(t, seed, numbered(i, 120))
			cursors = append(cursors, c)
		}
		for range 60 {
			key := numbered(row.IntN(60), 100+row.IntN(41))
			if row.IntN(3) == 0 {
				m.x.Put(key, textOf(row.IntN(600)))
			} else {
				m.x.Delete(m.entries[row.IntN(40)].Key)
			}
			if row.IntN(100) == 0 {
				a.SetRoot(0, row.IntN(50))
			}
			for _, c := range cursors {
				val, e := c.Val()
				if (e != api.OK) && val != "" || c.Valid() != (c.Key() != "") || c.Valid() != (c.Depth() > 0) {
					t.Fatalf("seed %d: %v, %.40q, %.40q, %d, Depth %d", seed, c.Valid(), c.Key(), val, e, c.Depth())
				}
				if row.IntN(2) == 0 {
					c.Next()
				} else {
					c.Prev()
				}
			}
		}
		n := 0
		for key := range Range(m.x, "", "") {
			m.x.Delete(key)
			if n++; n > 1000 {
				t.Fatalf("seed %d: it does not end", seed)
			}
		}
	}
}

// Rule 1: numbers of pages at both ends of their range.
func TestFarRoots(t *testing.T) {
	a := fresh(t, 20)
	h := maker{t, a}
	h.leaf("a")
	for _, far := range []int{2, 19, 20, 21, 1 << 16, 1 << 30, math.MaxInt32} {
		wantNone(t, far, h.rooted(0, far), "", api.ErrForm)
		wantNone(t, far, h.rooted(1, h.branch([]int{far})), "", api.ErrForm)
	}
}
