package localtree

import (
	"fmt"
	"slices"
	"testing"

	"aquifer/api"
	"aquifer/content"
	"aquifer/sector"
	"aquifer/table"
)

// harmedCopy tells a disk that has the same, but a byte of a page.
func harmedCopy(t *testing.T, d *sector.Disk, id int) *sector.Disk {
	t.Helper()
	harmed := copyOf(t, d)
	at := madeLog + 8*id
	body, e := harmed.Read(at)
	wantE(t, "the disk's Read", e, api.OK)
	wantE(t, "the disk's Write", harmed.Write(at, "~"+body[1:]), api.OK)
	return harmed
}

// seen tells what all calls that change nothing tell of a transaction, errors among it.
func seen(a *table.Txn, p plain) []string {
	var l []string
	for _, q := range append(p.paths(), "", "z/a", "z/a/f.x", "new.x", "new") {
		for _, c := range []call{stat(q), list(q), read(q)} {
			l = append(l, fmt.Sprintf("%v: %+v", c, c.of(a)))
		}
	}
	for id := range p.last + 2 {
		have, e := content.Have(a, id)
		l = append(l, fmt.Sprint(id, have, int(e)))
	}
	last, e := content.Last(a)
	return append(l, fmt.Sprintf("%+v %+v %d %d", files().of(a), hydrated().of(a), last, int(e)))
}

// A page that the disk has harmed: a call that must read it tells the transaction's error, with nothing. What puts one row alone has changed nothing then; what changes more takes back what can be read.
func TestHarmedPages(t *testing.T) {
	d, s, p := stored(t)
	b := paired(t, s, p)
	for i := range 12 {
		b.all(place(fmt.Sprintf("m/%d/p.x", i), 1, 1), create(fmt.Sprintf("m/%d/f.x", i), textOf(i*10), 1))
	}
	p = b.commit()
	wantE(t, "Checkpoint", s.Checkpoint(), api.OK)
	used, _ := s.Pages()
	failed, whole := map[string]int{}, 0
	for id := 1; id <= used; id++ {
		s := opened(t, harmedCopy(t, d, id))
		a := begun(t, s)
		was := seen(a, p)
		for _, c := range []call{
			mkdir("new"), mkdir("m/9/new"), mark("m/9/f.x", 1<<40), touch("m/9/p.x", 1<<40), create("new.x", textOf(200), 1), write("a/f.x", textOf(99)), write("m/7/f.x", ""),
			rename("a", "z/a"), rename("m/3", "z/a"), rename("a.x", "new.x"), remove("a/b/g.x"), remove("m/7/f.x"), place("a/b/g.x", 1, 1), place("new/new/p.x", 1, 1), empty("a.x"),
		} {
			a.Abort()
			a = begun(t, s)
			r := c.of(a)
			if r.e == api.OK {
				continue
			}
			failed[c.op]++
			if !same(r, answer{e: api.ErrSum}) {
				t.Errorf("%v with page %d harmed: %+v", c, id, r)
			}
			isAsItWas := slices.Equal(seen(a, p), was)
			if isAsItWas {
				whole++
			} else if c.op == "Mkdir" || c.op == "Mark" || c.op == "Touch" {
				t.Errorf("%v with page %d harmed: something was changed", c, id)
			}
		}
	}
	for _, op := range []string{"Mkdir", "Create", "Write", "Rename", "Remove", "Place", "Empty", "Mark", "Touch"} {
		if failed[op] == 0 {
			t.Errorf("%s did not fail", op)
		}
	}
	if whole < 60 {
		t.Errorf("only %d of %v have changed nothing", whole, failed)
	}
}

// Rows that no call has put there: what stands there is no inode of such a path.
func TestRowsOfNoInode(t *testing.T) {
	file := []api.Field{{Tag: 1, N: 2}, {Tag: 3, Kind: 1, S: textOf(32)}, {Tag: 5, N: 1}}
	dir := []api.Field{{Tag: 1, N: 1}}
	for i, x := range []struct {
		key   []api.Part
		rec   []api.Field
		p     string // the path, if the key is one's
		found bool
	}{
		{[]api.Part{{Kind: 2, S: "a"}}, dir, "a", true},
		{[]api.Part{{Kind: 2, S: "a.x"}}, file, "a.x", true},
		{[]api.Part{{Kind: 2, S: "a"}}, file, "a", false},
		{[]api.Part{{Kind: 2, S: "a.x"}}, dir, "a.x", false},
		{[]api.Part{{Kind: 2, S: "a.x"}}, nil, "a.x", false},
		{[]api.Part{{Kind: 2, S: "a.x"}}, append(slices.Clone(file), api.Field{Tag: 7, N: 1}), "a.x", false},
		{[]api.Part{{Kind: 1, N: 5}}, dir, "", false},
		{[]api.Part{{Kind: 2, S: "A"}}, dir, "", false},
		{[]api.Part{{Kind: 2, S: "a.x"}, {Kind: 2, S: "b"}}, dir, "", false},
	} {
		a := begun(t, made(t, 20))
		wantE(t, i, a.Put(api.TbNode, x.key, x.rec), api.OK)
		want := api.ErrForm
		if x.found {
			want = api.OK
		}
		for _, c := range []call{list(""), files(), hydrated()} {
			if r := c.of(a); r.e != want || !x.found && !same(r, answer{e: want}) {
				t.Errorf("%d: %v: %+v", i, c, r)
			}
		}
		if x.p == "" {
			continue
		}
		for _, c := range []call{stat(x.p), remove(x.p)} {
			if r := c.of(a); r.e != want || !x.found && !same(r, answer{e: want}) {
				t.Errorf("%d: %v: %+v", i, c, r)
			}
		}
	}
	// A row of the root is not looked at.
	b := fresh(t)
	wantE(t, "Put", b.a.Put(api.TbNode, nil, dir), api.OK)
	for _, c := range []call{list(""), files(), hydrated(), stat(""), remove("")} {
		if r, told := c.of(b.a), b.p.tell(c); !same(r, told) {
			t.Errorf("%v: %+v, want %+v", c, r, told)
		}
	}
}
