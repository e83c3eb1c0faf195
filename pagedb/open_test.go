package pagedb

import (
	"fmt"
	"math"
	"slices"
	"strings"
	"testing"

	"aquifer/api"
	"aquifer/sector"
)

// TestExample is the chapter's own.
func TestExample(t *testing.T) {
	d := aDisk(t, 200)
	x := opened(t, d, 40)
	if x.Count() != 20 {
		t.Errorf("Count %d", x.Count())
	}
	a := begun(t, x)
	if id, e := a.Alloc(); id != 1 || e != api.OK {
		t.Errorf("Alloc: %d, %d", id, e)
	}
	wantE(t, "Write", a.Write(1, 5, "ab"), api.OK)
	wantE(t, "SetRoot", a.SetRoot(0, 1), api.OK)
	wantE(t, "Commit", a.Commit(), api.OK)
	x = opened(t, d, 40)
	a = begun(t, x)
	kind, body, e := a.Read(1)
	if a.Root(0) != 1 || kind != 5 || body != "ab" || e != api.OK {
		t.Errorf("root %d, kind %d, body %q, error %d", a.Root(0), kind, body, e)
	}
}

// P10.1: no disk, one without power, and logs that are no part of it.
func TestOpenOfNoDisk(t *testing.T) {
	for what, d := range map[string]*sector.Disk{"nil": nil, "plain": {}} {
		for _, log := range []int{-1, 0, 2, 40, math.MaxInt} {
			refused(t, what, d, log, api.ErrNil)
		}
	}
	d := aDisk(t, 200)
	for _, log := range []int{math.MinInt, -1, 0, 1, 201, 1 << 16, math.MaxInt} {
		refused(t, "no log", d, log, api.ErrArg)
	}
	wantE(t, "Off", d.Off(), api.OK)
	for _, log := range []int{-1, 2, 40, 201} {
		refused(t, "off", d, log, api.ErrDown)
	}
}

// P10.1, P10.7: there are as many pages as there is room for; four at least.
func TestOpenCounts(t *testing.T) {
	for _, log := range []int{2, 3, 10, 40} {
		for more := range 80 {
			d := aDisk(t, log+more)
			if more < 32 {
				refused(t, fmt.Sprint(more, " sectors behind the log"), d, log, api.ErrArg)
				continue
			}
			x := opened(t, d, log)
			wantIs(t, "fresh", x, fresh(more/8))
			if d.Done() != 0 {
				t.Errorf("Open of a disk of noughts has written")
			}
		}
	}
	_, x := made(t, 2, (1<<16-2)/8)
	if x.Count() != 8191 {
		t.Errorf("the greatest disk: %d", x.Count())
	}
}

// P10.1: what the log tells comes ahead of how many pages there are, and that ahead of what page 0 is.
func TestOpenRefusesInOrder(t *testing.T) {
	for _, pages := range []int{3, 4} {
		d := aDisk(t, 10+8*pages)
		put(t, d, 10, "neither a page nor blank")
		put(t, d, 0, "no head")
		refused(t, "no head", d, 10, api.ErrForm)
		put(t, d, 0, plainHead(3, 9), "no frame")
		refused(t, "no frame", d, 10, api.ErrSum)
		put(t, d, 0, plainHead(3, 9), plainFrame("x"))
		want := api.ErrArg
		if pages == 4 {
			want = api.ErrForm
		}
		refused(t, "no record of a database", d, 10, want)
		put(t, d, 0, plainHead(3, 0))
		if pages == 4 {
			want = api.ErrSum
		}
		refused(t, "page 0", d, 10, want)
	}
}

// P10.1: an error of the disk, while what the log has is done, comes ahead of what page 0 is; what was done then stays.
func TestOpenDoesTheLogFirst(t *testing.T) {
	const log, count = 20, 5
	d, x, p := ofPages(t, log, count, 3)
	own := all(t, d)[log]
	b := paired(t, x, p)
	b.write(2, 99, "new")
	p = b.commit()
	put(t, d, log, "neither a page nor blank")
	image := all(t, d)
	for goes := range 8 + 1 + 2 {
		d := diskOf(t, image)
		wantE(t, "Arm", d.Arm(goes), api.OK)
		if x, e := Open(d, log); x != nil || e != api.ErrDown {
			t.Errorf("armed with %d: %v, %d", goes, x, e)
		}
	}
	for range 3 {
		if x, e := Open(d, log); x != nil || e != api.ErrSum {
			t.Errorf("page 0: %v, %d", x, e)
		}
	}
	put(t, d, log, own)
	wantIs(t, "page 0 is as it was", opened(t, d, log), p)
}

// P10.1: page 0 is blank, or a page of a database, or Open is refused, and writes nothing.
func TestOpenOfPageNought(t *testing.T) {
	const log, count = 20, 5
	d, x, p := ofPages(t, log, count, 3)
	image := all(t, d)
	own := strings.Join(image[log:log+8], "")
	with := func(s string) *sector.Disk {
		d := diskOf(t, image)
		put(t, d, log, pieces(s)...)
		return d
	}
	wantIs(t, "its own", opened(t, with(own), log), p)
	wantIs(t, "blank", opened(t, with(strings.Repeat("\x00", 512)), log), fresh(count))

	for what, s := range map[string]string{
		"page 1":              strings.Join(image[log+8:log+16], ""),
		"another number":      plainPage(1, own[4], own[8:40]),
		"another kind":        plainPage(0, own[4]+1, own[8:40]),
		"a free one's kind":   plainPage(0, 255, own[8:40]),
		"no body":             plainPage(0, own[4], ""),
		"a short body":        plainPage(0, own[4], "a"),
		"a body of noughts":   plainPage(0, own[4], strings.Repeat("\x00", int(own[6]))),
		"a body of texts":     plainPage(0, own[4], strings.Repeat("a", int(own[6]))),
		"its body and one":    plainPage(0, own[4], own[8:8+own[6]]+"\x00"),
		"its body less one":   plainPage(0, own[4], own[8:8+own[6]-1]),
		"another first byte":  plainPage(0, own[4], "B"+own[9:8+own[6]]),
		"the longest of them": plainPage(0, own[4], strings.Repeat("\xff", 500)),
	} {
		refused(t, what, with(s), log, api.ErrForm)
	}
	for i := range own {
		for _, flip := range []byte{1, 0x80, 0xff} {
			s := []byte(own)
			s[i] ^= flip
			refused(t, fmt.Sprint("another byte at ", i), with(string(s)), log, api.ErrSum)
		}
		s := make([]byte, 512)
		s[i] = 1
		refused(t, fmt.Sprint("blank but at ", i), with(string(s)), log, api.ErrSum)
	}
	for i := range 8 {
		s := own[:64*i] + strings.Repeat("\xee", 64) + own[64*i+64:]
		refused(t, fmt.Sprint("another sector ", i), with(s), log, api.ErrSum)
	}
	wantIs(t, "the first one still", x, p)
}

// P10.1: a page 0 whose body tells what no database of that disk has is none. Each number of the body is set to all that may matter.
func TestOpenOfNoState(t *testing.T) {
	const log, count, n = 20, 9, 6
	d, x, p := ofPages(t, log, count, n)
	for _, id := range []int{2, 5} {
		b := paired(t, x, p)
		b.drop(id)
		p = b.commit()
	}
	wantE(t, "Checkpoint", x.Checkpoint(), api.OK)
	image := all(t, d)
	own := strings.Join(image[log:log+8], "")
	body := own[8 : 8+own[6]]
	taken := 0
	for at := 0; at+4 <= len(body); at += 4 {
		for _, v := range []uint32{0, 1, 2, 3, 5, n, n + 1, count, count + 1, 1<<31 - 1, 1 << 31, 1<<32 - 1} {
			d := diskOf(t, image)
			put(t, d, log, pieces(plainPage(0, own[4], body[:at]+low4(v)+body[at+4:]))...)
			x, e := Open(d, log)
			if e != api.OK {
				wantE(t, fmt.Sprint("at ", at, " ", v), e, api.ErrForm)
				continue
			}
			taken++
			a := begun(t, x)
			for i := range 4 {
				if n := a.Root(i); n < 0 || n > 1<<31-1 {
					t.Errorf("at %d %d: root %d", at, v, n)
				}
			}
			if x.High() < 1 || x.High() > count || x.Free() < 0 || x.Free() >= x.High() {
				t.Errorf("at %d %d: high mark %d, free %d", at, v, x.High(), x.Free())
			}
			useUp(t, a, count)
		}
	}
	if taken == 0 {
		t.Error("no root may be another one")
	}
}

// useUp does all that there is to be done to pages that may not fit together, and fails only if it has no end, or a page beyond the disk.
func useUp(t *testing.T, a *Tx, count int) {
	t.Helper()
	for range count + 1 {
		if id, e := a.Alloc(); e == api.OK && (id < 1 || id >= count) {
			t.Errorf("Alloc: %d", id)
		}
	}
	for id := range count + 1 {
		a.Read(id)
		a.Free(id)
		a.Write(id, 1, "a")
	}
	a.Abort()
}

// P10.1: opened again and again without a change between, nothing is written, and the database is the same.
func TestOpenAgain(t *testing.T) {
	const log, count = 40, 8
	d, x := made(t, log, count)
	for range 3 {
		wantIs(t, "of noughts", opened(t, d, log), fresh(count))
	}
	if d.Done() != 0 {
		t.Error("nothing was changed, and Open has written")
	}
	p := fresh(count)
	for i := range 4 {
		b := paired(t, x, p)
		b.write(b.alloc(), 7, textOf(i))
		b.setRoot(i, i+1)
		p = b.commit()
	}
	wantIs(t, "as it is", x, p)
	for n := range 4 {
		done := d.Done()
		x = opened(t, d, log)
		wantIs(t, "again", x, p)
		if n > 0 && d.Done() != done {
			t.Error("what the log has was done already, and Open has written")
		}
		if d.Pending() != 0 {
			t.Error("what Open has written is pending")
		}
	}
	b := paired(t, x, p)
	b.drop(2)
	p = b.commit()
	wantIs(t, "gone on", opened(t, d, log), p)
}

// P10.1: what the log has is done, whatever stands at the pages' places, and then the log has nothing.
func TestOpenDoesTheLog(t *testing.T) {
	const log, count = 60, 6
	d, x := made(t, log, count)
	p := fresh(count)
	for i := range 3 {
		b := paired(t, x, p)
		b.write(b.alloc(), 7, textOf(i))
		p = b.commit()
	}
	b := paired(t, x, p)
	b.write(1, 9, "later")
	p = b.commit()
	image := all(t, d)
	for id := range 4 {
		for _, bad := range []string{"torn", strings.Repeat("\xff", 64), plainPage(uint32(id), 5, "x")[:64], ""} {
			for i := range 8 {
				d := diskOf(t, image)
				put(t, d, log+8*id+i, bad)
				wantIs(t, "torn places", opened(t, d, log), p)
				wantIs(t, "torn places, again", opened(t, d, log), p)
				if s, e := d.Read(0); e != api.OK || !strings.HasPrefix(s, plainHead(1, 0)) {
					t.Errorf("the log is not reset: %q, %d", s, e)
				}
			}
		}
	}
}

// P10.1: with another size of the log there is no such database: it is refused, and nothing is written, be there records or not.
func TestOpenWithAnotherLog(t *testing.T) {
	const log, count, n = 40, 10, 9
	d, x, p := ofPages(t, log, count, n)
	b := paired(t, x, p)
	for i := range 4 {
		b.write(1+i, 1, textOf(500))
	}
	p = b.commit()
	image := all(t, d)
	for other := 2; other < len(image)-32; other++ {
		if other != log {
			refused(t, "with records", diskOf(t, image), other, api.ErrForm)
		}
	}
	wantIs(t, "its own", opened(t, d, log), p)
	image = all(t, d)
	for other := log + 1; other < log+8*(n+1) && other < len(image)-32; other++ {
		d := diskOf(t, image)
		if x, e := Open(d, other); x != nil || e != api.ErrSum && e != api.ErrForm {
			t.Errorf("Open(%d): %v, %d", other, x, e)
		}
		if !slices.Equal(all(t, d), image) {
			t.Errorf("Open(%d) has written", other)
		}
	}
}

// P10.1: a log whose records are no transactions of a database is refused, and nothing of it is done.
func TestOpenOfOtherRecords(t *testing.T) {
	const log, count = 40, 5
	d, x := made(t, log, count)
	b := paired(t, x, fresh(count))
	b.alloc()
	b.commit()
	image := all(t, d)
	frame := strings.Join(image[1:log], "")
	good := frame[8 : 8+4+2*516]
	page1 := good[4+516:]
	if plainFrame(good) != frame[:8+len(good)] {
		t.Fatal("the record is no record of two pages")
	}
	for what, rec := range map[string]string{
		"empty":                 "",
		"three bytes":           good[:3],
		"one byte less":         good[:len(good)-1],
		"one byte more":         good + "\x00",
		"another beginning":     "\x01" + good[1:],
		"its page cut off":      good[:4+516] + page1[:300],
		"another page's number": good[:4+516] + low4(2) + page1[4:],
		"no sum":                good[:4+516] + page1[:515] + string(page1[515]^1),
		"beyond the disk":       good[:4+516] + low4(count) + plainPage(count, 1, ""),
		"far beyond the disk":   good[:4+516] + low4(1<<31-1) + plainPage(1<<31-1, 1, ""),
		"no number of a page":   good[:4+516] + low4(1<<32-1) + plainPage(1<<32-1, 1, ""),
	} {
		for _, first := range []string{"", plainFrame(good)} {
			frames := first + plainFrame(rec)
			d := diskOf(t, image)
			put(t, d, 0, plainHead(4, len(frames)))
			put(t, d, 1, pieces(frames)...)
			refused(t, what, d, log, api.ErrForm)
		}
	}
	last := good + low4(count-1) + plainPage(count-1, 1, "")
	d = diskOf(t, image)
	put(t, d, 0, plainHead(4, len(plainFrame(last))))
	put(t, d, 1, pieces(plainFrame(last))...)
	wantIs(t, "the last page of the disk", opened(t, d, log), fresh(count).with(func(a *plainTx) { a.alloc() }))
}

// P10.1, P10.2, P10.5: the log's last epoch is no error of the disk. What the log has is done all the same, and transactions go on as long as there is room.
func TestLastEpoch(t *testing.T) {
	const log, count = 40, 5
	d := aDisk(t, log+8*count)
	put(t, d, 0, plainHead(1<<62, 0))
	x := opened(t, d, log)
	wantIs(t, "without records", x, fresh(count))
	wantE(t, "Checkpoint without records", x.Checkpoint(), api.OK)
	b := paired(t, x, fresh(count))
	b.write(b.alloc(), 2, "a")
	p := b.commit()
	wantE(t, "Checkpoint", x.Checkpoint(), api.ErrFull)
	wantIs(t, "behind Checkpoint", x, p)
	x = opened(t, d, log)
	wantIs(t, "opened", x, p)
	b = paired(t, x, p)
	b.write(1, 3, "b")
	b.setRoot(1, 1)
	p = b.commit()
	b = paired(t, x, p)
	b.write(b.alloc(), 4, "c")
	wantE(t, "without room", b.a.Commit(), api.ErrFull)
	wantE(t, "it has ended", b.a.SetRoot(0, 1), api.ErrNil)
	wantIs(t, "without room", x, p)
	wantIs(t, "opened again", opened(t, d, log), p)
}
