package inode

import (
	"math"
	"slices"
	"strings"
	"testing"

	"aquifer/api"
	"aquifer/field"
)

// file is an inode that has each field.
func file() api.Inode {
	return api.Inode{Kind: 2, Size: 5, Sum: [32]byte{1, 31: 2}, Content: 7, Version: 3, Opened: 9}
}

// changed tells the file with something else.
func changed(change func(*api.Inode)) api.Inode {
	n := file()
	change(&n)
	return n
}

// P17.2: Check takes inodes that may be, and no others.
func TestCheck(t *testing.T) {
	for i, n := range []api.Inode{
		{Kind: 1},
		file(),
		changed(func(n *api.Inode) { n.Size = 0 }),
		changed(func(n *api.Inode) { n.Size = 4096 }),
		changed(func(n *api.Inode) { n.Sum = [32]byte{} }),
		changed(func(n *api.Inode) { n.Content = 0 }),
		changed(func(n *api.Inode) { n.Content = 1 }),
		changed(func(n *api.Inode) { n.Content = 1 << 40 }),
		changed(func(n *api.Inode) { n.Version = 0 }),
		changed(func(n *api.Inode) { n.Version = 1 }),
		changed(func(n *api.Inode) { n.Version = 1 << 40 }),
		changed(func(n *api.Inode) { n.Opened = 0 }),
		changed(func(n *api.Inode) { n.Opened = 1 }),
		changed(func(n *api.Inode) { n.Opened = 1 << 40 }),
		{Kind: 2, Content: 1},
		{Kind: 2, Version: 1},
	} {
		if e := Check(n); e != api.OK {
			t.Errorf("%d: %+v: error %d", i, n, int(e))
		}
	}
	for i, n := range []api.Inode{
		{},
		{Kind: 1, Size: 1},
		{Kind: 1, Size: -1},
		{Kind: 1, Sum: [32]byte{1}},
		{Kind: 1, Sum: [32]byte{31: 1}},
		{Kind: 1, Content: 1},
		{Kind: 1, Version: 1},
		{Kind: 1, Opened: 1},
		{Kind: 1, Opened: -1},
		{Kind: 2},
		{Kind: 2, Opened: 1, Size: 1, Sum: [32]byte{1}},
		{Kind: 2, Content: -1},
		{Kind: 2, Version: -1},
		{Kind: 2, Content: math.MinInt, Version: math.MinInt},
		{Kind: 2, Content: -3, Version: 3},
		{Kind: 2, Content: math.MinInt, Version: 3},
		{Kind: 2, Content: 3, Version: -3},
		{Kind: 2, Content: 3, Version: math.MinInt},
	} {
		if e := Check(n); e != api.ErrArg {
			t.Errorf("%d: %+v: error %d", i, n, int(e))
		}
	}
	for _, kind := range []int{math.MinInt, -2, -1, 0, 3, 4, 255, 258, math.MaxInt} {
		if Check(api.Inode{Kind: kind}) != api.ErrArg || Check(changed(func(n *api.Inode) { n.Kind = kind })) != api.ErrArg {
			t.Errorf("the kind %d is taken", kind)
		}
	}
	if Check(changed(func(n *api.Inode) { n.Kind = 1 })) != api.ErrArg {
		t.Error("a directory may have what a file has")
	}
}

// P17.2: the records of inodes, field by field.
func TestRecords(t *testing.T) {
	none := strings.Repeat("\x00", 32)
	for i, x := range []struct {
		n    api.Inode
		want []api.Field
	}{
		{api.Inode{Kind: 1}, []api.Field{{Tag: 1, N: 1}}},
		{file(), []api.Field{
			{Tag: 1, N: 2}, {Tag: 2, N: 5}, {Tag: 3, Kind: 1, S: "\x01" + none[:30] + "\x02"},
			{Tag: 4, N: 7}, {Tag: 5, N: 3}, {Tag: 6, N: 9},
		}},
		{api.Inode{Kind: 2, Content: 3}, []api.Field{{Tag: 1, N: 2}, {Tag: 3, Kind: 1, S: none}, {Tag: 4, N: 3}}},
		{api.Inode{Kind: 2, Version: 3}, []api.Field{{Tag: 1, N: 2}, {Tag: 3, Kind: 1, S: none}, {Tag: 5, N: 3}}},
		{
			api.Inode{Kind: 2, Size: 4096, Content: 1 << 40, Opened: 1 << 40},
			[]api.Field{{Tag: 1, N: 2}, {Tag: 2, N: 4096}, {Tag: 3, Kind: 1, S: none}, {Tag: 4, N: 1 << 40}, {Tag: 6, N: 1 << 40}},
		},
	} {
		rec, e := Encode(x.n)
		if e != api.OK || !slices.Equal(rec, x.want) {
			t.Errorf("%d: the record is %v, %d", i, rec, int(e))
		}
		if n, e := Decode(x.want); n != x.n || e != api.OK {
			t.Errorf("%d: the inode is %+v, %d", i, n, int(e))
		}
	}
}

// P17.2, P17.5: at all edges Check, Encode and Decode are as the document has them.
func TestInodesAtTheEdges(t *testing.T) {
	may := 0
	for _, n := range inodes() {
		want := api.ErrArg
		if plainMay(n) {
			want, may = api.OK, may+1
		}
		if e := Check(n); e != want {
			t.Fatalf("Check(%+v) = %d", n, int(e))
		}
		rec, e := Encode(n)
		wantE(t, n, e, want, rec == nil)
		if want == api.OK && !slices.Equal(rec, plainRecord(n)) {
			t.Fatalf("%+v: the record is %v", n, rec)
		}
		// What such a record would be is not decoded, if the inode may not be.
		back, e := Decode(plainRecord(n))
		if want == api.OK && (back != n || e != api.OK) || want != api.OK && (back != api.Inode{} || e != api.ErrForm) {
			t.Fatalf("Decode of the record of %+v: %+v, %d", n, back, int(e))
		}
	}
	// Three sizes, eight pairs of a content and a version, three times when it was opened.
	if may < 3*8*3 {
		t.Errorf("only %d of them may be", may)
	}
}

// P17.2: what Encode made can be kept as bytes, and comes back.
func TestRecordsAsBytes(t *testing.T) {
	for _, n := range inodes() {
		if !plainMay(n) {
			continue
		}
		rec, _ := Encode(n)
		code, e := field.Encode(rec)
		wantE(t, n, e, api.OK, false)
		rec, e = field.Decode(code)
		wantE(t, n, e, api.OK, false)
		if back, e := Decode(rec); back != n || e != api.OK {
			t.Fatalf("%+v comes back as %+v, %d", n, back, int(e))
		}
	}
}

// P17.2: Decode takes no record that Encode does not make.
func TestDecodeOfNoRecord(t *testing.T) {
	sum := strings.Repeat("s", 32)
	dir, _ := Encode(api.Inode{Kind: 1})
	all, _ := Encode(file())
	bare := []api.Field{{Tag: 1, N: 2}, {Tag: 3, Kind: 1, S: sum}, {Tag: 4, N: 1}}
	if _, e := Decode(bare); e != api.OK {
		t.Fatal(int(e))
	}
	with := func(rec []api.Field, i int, f api.Field) []api.Field {
		rec = slices.Clone(rec)
		rec[i] = f
		return rec
	}
	wrong := [][]api.Field{
		nil,
		{{}},
		{{Tag: 1}},
		{{Tag: 1, N: 2}},
		{{Tag: 1, N: 3}},
		{{Tag: 1, N: -1}},
		{{Tag: 1, Kind: 1, S: "\x01"}},
		{{Tag: 1, N: 1, S: "x"}},
		{{Tag: 3, Kind: 1, S: sum}, {Tag: 4, N: 1}},
		{{Tag: 1, N: 1}, {Tag: 3, Kind: 1, S: sum}},
		{{Tag: 1, N: 1}, {Tag: 3, Kind: 1, S: strings.Repeat("\x00", 32)}},
		{{Tag: 1, N: 1}, {Tag: 3, Kind: 1}},
		{{Tag: 1, N: 1}, {Tag: 2}},
		{{Tag: 1, N: 1}, {Tag: 2, N: 1}},
		{{Tag: 1, N: 1}, {Tag: 4, N: 1}},
		{{Tag: 1, N: 1}, {Tag: 5, N: 1}},
		{{Tag: 1, N: 1}, {Tag: 6, N: 1}},
		{{Tag: 1, N: 1}, {Tag: 7, N: 1}},
		{{Tag: 1, N: 1}, {Tag: 1, N: 1}},
		{{Tag: 0, N: 1}, {Tag: 1, N: 1}},
		{{Tag: 1, N: 2}, {Tag: 4, N: 1}},
		{{Tag: 1, N: 2}, {Tag: 3, Kind: 1, S: sum}},
		{{Tag: 1, N: 2}, {Tag: 3, Kind: 1, S: sum}, {Tag: 6, N: 1}},
		with(bare, 1, api.Field{Tag: 3, Kind: 1, S: sum[:31]}),
		with(bare, 1, api.Field{Tag: 3, Kind: 1, S: sum + "s"}),
		with(bare, 1, api.Field{Tag: 3, Kind: 1, S: sum + "\x00"}),
		with(bare, 1, api.Field{Tag: 3, Kind: 1}),
		with(bare, 1, api.Field{Tag: 3, Kind: 1, N: 1, S: sum}),
		with(bare, 1, api.Field{Tag: 3, Kind: 0, S: sum}),
		with(bare, 1, api.Field{Tag: 3, Kind: 2, S: sum}),
		with(bare, 1, api.Field{Tag: 3, N: 1}),
		with(bare, 1, api.Field{Tag: 3, Kind: 1, S: strings.Repeat("s", 1<<20)}),
		with(all, 1, api.Field{Tag: 2, N: 4097}),
		with(all, 1, api.Field{Tag: 2, N: -1}),
		with(all, 1, api.Field{Tag: 2, N: 0}),
		with(all, 3, api.Field{Tag: 4, N: 1<<40 + 1}),
		with(all, 3, api.Field{Tag: 4, N: math.MinInt}),
		with(all, 4, api.Field{Tag: 5, N: 1<<40 + 1}),
		with(all, 4, api.Field{Tag: 5}),
		with(all, 5, api.Field{Tag: 6, N: math.MaxInt}),
		with(all, 5, api.Field{Tag: 6}),
		with(all, 5, api.Field{Tag: 6, N: 9, S: "x"}),
		with(all, 5, api.Field{Tag: 6, Kind: 1, S: "x"}),
		with(all, 5, api.Field{Tag: 6, Kind: -1, N: 9}),
		append(slices.Clone(all), api.Field{Tag: 7, N: 1}),
		append(slices.Clone(all), api.Field{Tag: 63, Kind: 1}),
		append(slices.Clone(all), api.Field{Tag: 64, N: 1}),
		append(slices.Clone(all), api.Field{Tag: math.MaxInt}),
		slices.Insert(slices.Clone(all), 0, api.Field{Tag: -1, N: 1}),
		append(slices.Clone(dir), dir...),
		append(slices.Clone(all), all...),
		slices.Repeat(all, 1<<14),
	}
	for i := range all {
		wrong = append(wrong, slices.Insert(slices.Clone(all), i, all[i]))
		if i > 0 {
			swapped := slices.Clone(all)
			swapped[i-1], swapped[i] = all[i], all[i-1]
			wrong = append(wrong, swapped)
		}
		if i == 0 || i == 2 {
			wrong = append(wrong, slices.Delete(slices.Clone(all), i, i+1))
		}
	}
	for i, rec := range wrong {
		n, e := Decode(rec)
		if n != (api.Inode{}) || e != api.ErrForm {
			t.Errorf("%d: %+v, %d", i, n, int(e))
		}
	}
}

// choices tells, for each tag from 1 to 6, fields of which one may stand there; a Tag of 0 tells that none does.
func choices() [6][]api.Field {
	sum := strings.Repeat("s", 32)
	var l [6][]api.Field
	for i := range l {
		tag := i + 1
		l[i] = []api.Field{{}, {Tag: tag}, {Tag: tag, N: 1}, {Tag: tag, N: 2}, {Tag: tag, N: 4097}, {Tag: tag, Kind: 1, S: sum}}
	}
	for _, s := range []string{"", sum[:31], sum + "s", strings.Repeat("\x00", 32)} {
		l[2] = append(l[2], api.Field{Tag: 3, Kind: 1, S: s})
	}
	for i := 3; i < 6; i++ {
		l[i] = append(l[i], api.Field{Tag: i + 1, N: greatest}, api.Field{Tag: i + 1, N: greatest + 1})
	}
	return l
}

// anyRecords tells each record that has one choice for each tag, now and then with something twice, or in another order.
func anyRecords(tell func(rec []api.Field)) {
	r := fixedRow(2)
	all := choices()
	var with func(i int, ahead []api.Field)
	with = func(i int, ahead []api.Field) {
		if i < len(all) {
			for _, f := range all[i] {
				next := slices.Clone(ahead)
				if f.Tag != 0 {
					next = append(next, f)
				}
				with(i+1, next)
			}
			return
		}
		tell(ahead)
		if len(ahead) > 1 && r.IntN(16) == 0 {
			i, j := r.IntN(len(ahead)), r.IntN(len(ahead))
			ahead[i], ahead[j] = ahead[j], ahead[i]
			tell(ahead)
			tell(append(ahead, oneOf(r, ahead)))
		}
	}
	with(0, nil)
}

// P17.2, P17.3, P17.5: of any fields Decode and DecodeArch tell what the document has, and what they take is encoded as it was.
func TestAnyRecords(t *testing.T) {
	found, archived := 0, 0
	anyRecords(func(rec []api.Field) {
		n, e := Decode(rec)
		want, ok := plainInode(rec)
		if n != want || ok && e != api.OK || !ok && e != api.ErrForm {
			t.Fatalf("Decode(%v) = %+v, %d", rec, n, int(e))
		}
		if ok {
			found++
			if again, e := Encode(n); e != api.OK || !slices.Equal(again, rec) {
				t.Fatalf("%v is encoded as %v", rec, again)
			}
		}
		a, e := DecodeArch(rec)
		wantArch, ok := plainArch(rec)
		if a != wantArch || ok && e != api.OK || !ok && e != api.ErrForm {
			t.Fatalf("DecodeArch(%v) = %+v, %d", rec, a, int(e))
		}
		if ok {
			archived++
			if again, e := EncodeArch(a); e != api.OK || !slices.Equal(again, rec) {
				t.Fatalf("%v is encoded as %v", rec, again)
			}
		}
	})
	if found < 100 || archived < 10 {
		t.Errorf("only %d inodes, %d archived", found, archived)
	}
}

// P17.5: the records of two inodes that are not the same are not the same.
func TestNoTwoOfOneRecord(t *testing.T) {
	seen := map[string]api.Inode{}
	tell := func(n api.Inode) {
		rec, e := Encode(n)
		wantE(t, n, e, api.OK, false)
		code, e := field.Encode(rec)
		wantE(t, n, e, api.OK, false)
		if m, there := seen[code]; there && m != n {
			t.Fatalf("%+v and %+v have one record", m, n)
		}
		seen[code] = n
	}
	for _, n := range inodes() {
		if plainMay(n) {
			tell(n)
		}
	}
	for i := range 32 {
		n := file()
		n.Sum[i]++
		tell(n)
	}
	for _, n := range []api.Inode{
		{Kind: 2, Content: 3}, {Kind: 2, Version: 3}, {Kind: 2, Content: 3, Size: 3}, {Kind: 2, Content: 3, Opened: 3},
		{Kind: 2, Content: 3, Version: 3}, {Kind: 2, Version: 3, Opened: 3}, {Kind: 2, Version: 3, Size: 3}, {Kind: 1},
	} {
		tell(n)
	}
}

// P17.2: what is handed in is not changed, nor what lies behind it; what is handed out is new.
func TestRecordsAreNew(t *testing.T) {
	rec, _ := Encode(file())
	want := slices.Clone(rec)
	rec = append(rec, api.Field{Tag: 6, N: 99})
	if n, e := Decode(rec[:6]); n != file() || e != api.OK {
		t.Errorf("what lies behind the record is read: %+v, %d", n, int(e))
	}
	if !slices.Equal(rec[:6], want) || rec[6].N != 99 {
		t.Error("Decode changes its record")
	}
	rec[0].N = 77
	if again, _ := Encode(file()); !slices.Equal(again, want) {
		t.Error("a record is handed out twice")
	}
	arch := api.Arch{Version: 1}
	first, _ := EncodeArch(arch)
	first[0].Tag = 77
	if again, _ := EncodeArch(arch); again[0].Tag != 3 {
		t.Error("a record of what is archived is handed out twice")
	}
}
