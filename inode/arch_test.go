package inode

import (
	"math"
	"slices"
	"strings"
	"testing"

	"aquifer/api"
	"aquifer/field"
)

// P17.3: the records of what is archived, field by field.
func TestArchRecords(t *testing.T) {
	none := strings.Repeat("\x00", 32)
	for i, x := range []struct {
		a    api.Arch
		want []api.Field
	}{
		{api.Arch{Version: 1}, []api.Field{{Tag: 3, Kind: 1, S: none}, {Tag: 5, N: 1}}},
		{
			api.Arch{Version: 1 << 40, Size: 4096, Sum: [32]byte{9}},
			[]api.Field{{Tag: 2, N: 4096}, {Tag: 3, Kind: 1, S: "\x09" + none[:31]}, {Tag: 5, N: 1 << 40}},
		},
		{
			api.Arch{Version: 2, Size: 1, Sum: [32]byte{31: 1}},
			[]api.Field{{Tag: 2, N: 1}, {Tag: 3, Kind: 1, S: none[:31] + "\x01"}, {Tag: 5, N: 2}},
		},
	} {
		rec, e := EncodeArch(x.a)
		if e != api.OK || !slices.Equal(rec, x.want) {
			t.Errorf("%d: the record is %v, %d", i, rec, int(e))
		}
		if a, e := DecodeArch(x.want); a != x.a || e != api.OK {
			t.Errorf("%d: archived is %+v, %d", i, a, int(e))
		}
	}
}

// P17.3, P17.5: at all edges EncodeArch and DecodeArch are as the document has them, and no two have one record.
func TestArchsAtTheEdges(t *testing.T) {
	may := map[string]api.Arch{}
	for _, a := range archs() {
		want := api.ErrArg
		if plainMayArch(a) {
			want = api.OK
		}
		rec, e := EncodeArch(a)
		wantE(t, a, e, want, rec == nil)
		back, e := DecodeArch(plainArchRecord(a))
		if want != api.OK {
			wantE(t, a, e, api.ErrForm, back == api.Arch{})
			continue
		}
		if !slices.Equal(rec, plainArchRecord(a)) || back != a || e != api.OK {
			t.Fatalf("%+v: the record is %v, and comes back as %+v, %d", a, rec, back, int(e))
		}
		code, e := field.Encode(rec)
		wantE(t, a, e, api.OK, false)
		may[code] = a
	}
	if len(may) != 2*3*len(sums) {
		t.Errorf("%d records", len(may))
	}
}

// P17.3: DecodeArch takes no record that EncodeArch does not make.
func TestDecodeArchOfNoRecord(t *testing.T) {
	sum := api.Field{Tag: 3, Kind: 1, S: strings.Repeat("s", 32)}
	size, version := api.Field{Tag: 2, N: 5}, api.Field{Tag: 5, N: 3}
	if _, e := DecodeArch([]api.Field{size, sum, version}); e != api.OK {
		t.Fatal(int(e))
	}
	node, _ := Encode(file())
	dir, _ := Encode(api.Inode{Kind: 1})
	for i, rec := range [][]api.Field{
		nil,
		{{}},
		{sum},
		{version},
		{size, version},
		{size, sum},
		{sum, size, version},
		{version, sum},
		{size, version, sum},
		{size, size, sum, version},
		{size, sum, sum, version},
		{size, sum, version, version},
		{size, sum, version, {Tag: 6, N: 1}},
		{size, sum, {Tag: 4, N: 1}, version},
		{{Tag: 1, N: 2}, size, sum, version},
		{{Tag: 1, N: 1}, size, sum, version},
		{{Tag: 1}, size, sum, version},
		{size, sum, version, {Tag: 6}},
		{size, sum, version, {Tag: 7, N: 1}},
		{size, sum, version, {Tag: 63, Kind: 1}},
		{{Tag: 2}, sum, version},
		{{Tag: 2, N: -1}, sum, version},
		{{Tag: 2, N: 4097}, sum, version},
		{{Tag: 2, N: math.MaxInt}, sum, version},
		{{Tag: 2, N: 5, S: "x"}, sum, version},
		{{Tag: 2, Kind: 1, S: "5"}, sum, version},
		{sum, {Tag: 5}},
		{sum, {Tag: 5, N: -1}},
		{sum, {Tag: 5, N: math.MinInt}},
		{sum, {Tag: 5, N: 1<<40 + 1}},
		{sum, {Tag: 5, Kind: 1, S: "3"}},
		{{Tag: 3, Kind: 1, S: sum.S[:31]}, version},
		{{Tag: 3, Kind: 1, S: sum.S + "s"}, version},
		{{Tag: 3, Kind: 1, S: sum.S + "\x00"}, version},
		{{Tag: 3, Kind: 1}, version},
		{{Tag: 3, Kind: 1, N: 1, S: sum.S}, version},
		{{Tag: 3, N: 1}, version},
		{{Tag: 3, Kind: 2, S: sum.S}, version},
		node,
		dir,
		slices.Repeat([]api.Field{size, sum, version}, 1<<14),
	} {
		a, e := DecodeArch(rec)
		if a != (api.Arch{}) || e != api.ErrForm {
			t.Errorf("%d: %+v, %d", i, a, int(e))
		}
	}
	// A record of what is archived is none of an inode, either.
	rec, _ := EncodeArch(api.Arch{Version: 3, Size: 5})
	if n, e := Decode(rec); n != (api.Inode{}) || e != api.ErrForm {
		t.Errorf("what is archived is decoded as %+v, %d", n, int(e))
	}
}
