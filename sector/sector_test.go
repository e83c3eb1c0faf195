package sector

import (
	"math"
	"math/rand/v2"
	"slices"
	"strings"
	"testing"
	"unsafe"

	"aquifer/api"
)

// fixedRow tells numbers that are the same in each run.
func fixedRow() *rand.Rand {
	return rand.New(rand.NewPCG(7, 1))
}

// filled tells a text with the noughts that a sector has behind it.
func filled(s string) string {
	return s + strings.Repeat("\x00", 64-len(s))
}

// made tells a disk that New made.
func made(t *testing.T, n int) *Disk {
	t.Helper()
	d, e := New(n)
	if e != api.OK || d == nil {
		t.Fatalf("New(%d): %v, %d", n, d, e)
	}
	return d
}

// wantE fails, if a call told another error.
func wantE(t *testing.T, what string, got, want api.Errno) {
	t.Helper()
	if got != want {
		t.Errorf("%s: error %d, want %d", what, got, want)
	}
}

// wantHas fails, if the sectors have not these texts, the first sector the first one.
func wantHas(t *testing.T, what string, d *Disk, want ...string) {
	t.Helper()
	for i, w := range want {
		if s, e := d.Read(i); e != api.OK || s != filled(w) {
			t.Errorf("%s: sector %d has %q, %d, want %q", what, i, s, e, w)
		}
	}
}

// wantIs fails, if the disk tells otherwise how it is.
func wantIs(t *testing.T, what string, d *Disk, size, pending int, down bool, done int) {
	t.Helper()
	if d.Size() != size || d.Pending() != pending || d.Down() != down || d.Done() != done {
		t.Errorf("%s: size %d, pending %d, down %t, done %d; want %d, %d, %t, %d", what, d.Size(), d.Pending(), d.Down(), d.Done(), size, pending, down, done)
	}
}

// mustWrite writes the texts to one sector, one behind the other, and fails, if one is refused.
func mustWrite(t *testing.T, d *Disk, i int, texts ...string) {
	t.Helper()
	for _, s := range texts {
		wantE(t, "Write of "+s, d.Write(i, s), api.OK)
	}
}

// noPlaces tells numbers of sectors that a disk of n sectors has not.
func noPlaces(n int) []int {
	return []int{-1, n, -2, n + 1, -n, math.MinInt, math.MaxInt, math.MinInt + 1, 1 << 32, -1 << 32, 1 << 16, 1<<32 + n - 1}
}

// P7.1: New refuses what is not from 1 to MaxSectors, with no disk beside.
func TestNewRefuses(t *testing.T) {
	for _, n := range []int{0, -1, -2, math.MinInt, api.MaxSectors + 1, 2 * api.MaxSectors, 1 << 32, 1<<32 + 1, math.MaxInt} {
		if d, e := New(n); d != nil || e != api.ErrArg {
			t.Errorf("New(%d): %v, %d", n, d, e)
		}
	}
}

// P7.1: New makes as many sectors of noughts as it was asked for, with power, and not armed.
func TestNewMakesNoughts(t *testing.T) {
	for _, n := range []int{1, 2, 3, 64, 1000, api.MaxSectors - 1, api.MaxSectors} {
		d := made(t, n)
		wantIs(t, "new", d, n, 0, false, 0)
		for i := range n {
			if s, e := d.Read(i); e != api.OK || s != filled("") {
				t.Fatalf("sector %d of %d: %q, %d", i, n, s, e)
			}
		}
		for range 100 {
			wantE(t, "Flush", d.Flush(), api.OK)
		}
		wantIs(t, "behind many Flushes", d, n, 0, false, 100)
	}
}

// P7.1: Size stays what it was, whatever is done, without power too.
func TestSizeStays(t *testing.T) {
	d := made(t, 5)
	mustWrite(t, d, 4, "a")
	wantIs(t, "written", d, 5, 1, false, 1)
	wantE(t, "Off", d.Off(), api.OK)
	wantIs(t, "off", d, 5, 1, true, 1)
	wantE(t, "On", d.On(nil), api.OK)
	wantIs(t, "on", d, 5, 0, false, 1)
}

// P7.2: the first and the last sector can be read and written, and no other one changes.
func TestEnds(t *testing.T) {
	for _, n := range []int{1, 2, 5, api.MaxSectors} {
		for _, i := range []int{0, n / 2, n - 1} {
			d := made(t, n)
			mustWrite(t, d, i, "x")
			wantIs(t, "written", d, n, 1, false, 1)
			for _, flushed := range []bool{false, true} {
				for k := range n {
					want := filled("")
					if k == i {
						want = filled("x")
					}
					if s, e := d.Read(k); e != api.OK || s != want {
						t.Fatalf("of %d, %d written, flushed %t: sector %d has %q, %d", n, i, flushed, k, s, e)
					}
				}
				wantE(t, "Flush", d.Flush(), api.OK)
			}
		}
	}
}

// P7.2: a sector that there is not is refused by Read and by Write, which does nothing.
func TestNoSuchSector(t *testing.T) {
	for _, n := range []int{1, 3, api.MaxSectors} {
		d := made(t, n)
		mustWrite(t, d, 0, "a")
		for _, i := range noPlaces(n) {
			if i >= 0 && i < n {
				continue
			}
			if s, e := d.Read(i); s != "" || e != api.ErrArg {
				t.Errorf("Read(%d) of %d: %q, %d", i, n, s, e)
			}
			wantE(t, "Write", d.Write(i, "b"), api.ErrArg)
		}
		wantIs(t, "behind refusals", d, n, 1, false, 1)
		wantHas(t, "behind refusals", d, "a")
	}
}

// P7.2: a text of up to 64 bytes is written, with noughts behind it; a longer one is refused.
func TestLengths(t *testing.T) {
	long := strings.Repeat("0123456789abcdef\x00\xff\xfe\n", 300)
	for n := range 64 + 1 {
		d := made(t, 2)
		// What was there ahead is to leave nothing behind the new text.
		mustWrite(t, d, 1, strings.Repeat("z", 64), long[:n])
		wantHas(t, "pending", d, "", long[:n])
		wantE(t, "Flush", d.Flush(), api.OK)
		wantHas(t, "kept", d, "", long[:n])
	}
	d := made(t, 1)
	mustWrite(t, d, 0, "a")
	for _, n := range []int{65, 66, 127, 128, 256, 320, 4096, len(long)} {
		wantE(t, "Write of a long text", d.Write(0, long[:n]), api.ErrLong)
	}
	wantHas(t, "behind refusals", d, "a")
	wantIs(t, "behind refusals", d, 1, 1, false, 1)
}

// P7.2: any byte is kept as it is.
func TestAnyByte(t *testing.T) {
	d := made(t, 4)
	var all []byte
	for b := range 256 {
		all = append(all, byte(b))
	}
	for i := range 4 {
		mustWrite(t, d, i, string(all[64*i:64*i+64]))
	}
	wantE(t, "Flush", d.Flush(), api.OK)
	for i := range 4 {
		wantHas(t, "all bytes", d, string(all[:64]), string(all[64:128]), string(all[128:192]), string(all[192:]))
		wantE(t, "Off", d.Off(), api.OK)
		wantE(t, "On", d.On(nil), api.OK)
		mustWrite(t, d, i, string(all[64*i:64*i+64]))
	}
}

// P7.2: of one sector's writes the last one is what it has, ahead of a Flush and behind it.
func TestWrittenTwice(t *testing.T) {
	d := made(t, 2)
	mustWrite(t, d, 0, "first", "2nd")
	wantHas(t, "pending", d, "2nd", "")
	wantIs(t, "pending", d, 2, 2, false, 2)
	wantE(t, "Flush", d.Flush(), api.OK)
	wantHas(t, "flushed", d, "2nd", "")
	wantIs(t, "flushed", d, 2, 0, false, 3)
	mustWrite(t, d, 0, "third", "")
	wantHas(t, "pending again", d, "", "")
	wantIs(t, "pending again", d, 2, 2, false, 5)
	wantE(t, "Off", d.Off(), api.OK)
	wantE(t, "On", d.On(nil), api.OK)
	wantHas(t, "lost", d, "2nd", "")
	wantIs(t, "lost", d, 2, 0, false, 5)
}

// P7.2: writes that are alike are pending, and done, each for itself.
func TestAlikeWrites(t *testing.T) {
	d := made(t, 1)
	mustWrite(t, d, 0, "a", "a", "a")
	wantIs(t, "three alike", d, 1, 3, false, 3)
	wantE(t, "Flush", d.Flush(), api.OK)
	mustWrite(t, d, 0, "a")
	wantIs(t, "as it was kept", d, 1, 1, false, 5)
}

// P7.2: a Flush of nothing is done as any other one, and uses up one of an armed disk's.
func TestFlushOfNothing(t *testing.T) {
	d := made(t, 1)
	wantE(t, "Flush", d.Flush(), api.OK)
	wantE(t, "Flush", d.Flush(), api.OK)
	wantIs(t, "not armed", d, 1, 0, false, 2)
	wantE(t, "Arm", d.Arm(1), api.OK)
	wantE(t, "Flush", d.Flush(), api.OK)
	wantIs(t, "armed with 1", d, 1, 0, false, 3)
	wantE(t, "Flush", d.Flush(), api.ErrDown)
	wantIs(t, "armed with 0", d, 1, 0, true, 3)
}

// P7.2: armed with 0 the power goes at a Flush, which keeps nothing: what was pending may be lost.
func TestPowerGoesAtFlush(t *testing.T) {
	for _, keep := range [][]bool{nil, {true}, {false, true}, {true, true}} {
		d := made(t, 2)
		mustWrite(t, d, 0, "a")
		wantE(t, "Flush", d.Flush(), api.OK)
		mustWrite(t, d, 0, "b")
		mustWrite(t, d, 1, "c")
		wantE(t, "Arm", d.Arm(0), api.OK)
		wantE(t, "Flush", d.Flush(), api.ErrDown)
		wantIs(t, "down", d, 2, 2, true, 4)
		wantE(t, "On", d.On(keep), api.OK)
		want := []string{"a", ""}
		if len(keep) > 0 && keep[0] {
			want[0] = "b"
		}
		if len(keep) > 1 && keep[1] {
			want[1] = "c"
		}
		wantHas(t, "on", d, want...)
		wantIs(t, "on", d, 2, 0, false, 4)
	}
}

// P7.2: armed with 0 the power goes at a Write, which is not pending: nothing of it can be kept.
func TestPowerGoesAtWrite(t *testing.T) {
	d := made(t, 2)
	mustWrite(t, d, 0, "a")
	wantE(t, "Arm", d.Arm(0), api.OK)
	wantIs(t, "armed with 0", d, 2, 1, false, 1)
	wantHas(t, "armed with 0", d, "a", "")
	wantE(t, "Write", d.Write(1, "b"), api.ErrDown)
	wantIs(t, "down", d, 2, 1, true, 1)
	wantE(t, "On", d.On([]bool{true, true, true}), api.OK)
	wantHas(t, "on", d, "a", "")
	mustWrite(t, d, 1, "b")
	wantIs(t, "on", d, 2, 1, false, 2)
}

// P7.2, P7.3: armed with n just n Writes and Flushes are done, in whatever turn; the next one is not.
func TestArmedWith(t *testing.T) {
	for _, turn := range []string{"w", "f", "wf", "fw", "wwf"} {
		for _, n := range []int{0, 1, 2, 3, 10, 63, 64, 65, 200} {
			d := made(t, 3)
			wantE(t, "Arm", d.Arm(n), api.OK)
			for k := range n {
				wantE(t, turn, oneOf(d, turn, k), api.OK)
				// What only looks uses nothing up.
				if _, e := d.Read(k % 3); e != api.OK || d.Down() {
					t.Errorf("armed with %d, behind %d of %s: %d", n, k+1, turn, e)
				}
			}
			wantIs(t, turn, d, 3, d.Pending(), false, n)
			wantE(t, turn, oneOf(d, turn, n), api.ErrDown)
			wantIs(t, turn, d, 3, d.Pending(), true, n)
		}
	}
}

// oneOf does the k-th of what a turn tells again and again: w a Write, f a Flush.
func oneOf(d *Disk, turn string, k int) api.Errno {
	if turn[k%len(turn)] == 'w' {
		return d.Write(0, "w")
	}
	return d.Flush()
}

// P7.3: armed with a number below 0 it is not armed, whatever it was ahead; so it is with one that is never reached.
func TestNotArmed(t *testing.T) {
	for _, n := range []int{-1, -2, -100, math.MinInt, math.MinInt + 1, math.MaxInt, 1 << 32, 1 << 62} {
		for _, ahead := range []int{-1, 0, 1, 50} {
			d := made(t, 1)
			wantE(t, "Arm", d.Arm(ahead), api.OK)
			wantE(t, "Arm", d.Arm(n), api.OK)
			for k := range 300 {
				wantE(t, "wf", oneOf(d, "wf", k), api.OK)
			}
			wantIs(t, "not armed", d, 1, 0, false, 300)
		}
	}
}

// P7.3: Arm while it is armed counts anew from there, up and down.
func TestArmAgain(t *testing.T) {
	for _, c := range []struct{ first, used, again int }{{5, 0, 2}, {5, 3, 2}, {5, 5, 3}, {0, 0, 1}, {1, 1, 1}, {2, 1, 0}, {3, 0, 7}, {-1, 4, 0}, {-1, 4, 2}} {
		d := made(t, 1)
		wantE(t, "Arm", d.Arm(c.first), api.OK)
		for k := range c.used {
			wantE(t, "used", oneOf(d, "wf", k), api.OK)
		}
		wantE(t, "Arm again", d.Arm(c.again), api.OK)
		wantIs(t, "armed again", d, 1, d.Pending(), false, c.used)
		for k := range c.again {
			wantE(t, "again", oneOf(d, "fw", k), api.OK)
		}
		wantE(t, "behind", oneOf(d, "fw", c.again), api.ErrDown)
		wantIs(t, "behind", d, 1, d.Pending(), true, c.used+c.again)
	}
}

// P7.2: a call that is refused uses nothing up, and is not counted as done.
func TestRefusedUsesNothing(t *testing.T) {
	for n := range 4 {
		d := made(t, 2)
		wantE(t, "Arm", d.Arm(n), api.OK)
		refused := func() {
			t.Helper()
			wantE(t, "Write to no sector", d.Write(2, "a"), api.ErrArg)
			wantE(t, "Write to no sector", d.Write(-1, "a"), api.ErrArg)
			wantE(t, "Write of a long text", d.Write(0, strings.Repeat("a", 65)), api.ErrLong)
			wantE(t, "On", d.On([]bool{true}), api.ErrState)
			if _, e := d.Read(2); e != api.ErrArg {
				t.Errorf("Read: %d", e)
			}
		}
		for k := range n {
			refused()
			wantE(t, "Write", d.Write(1, "b"), api.OK)
			wantIs(t, "written", d, 2, k+1, false, k+1)
		}
		refused()
		wantIs(t, "armed with 0", d, 2, n, false, n)
		wantE(t, "Write", d.Write(1, "b"), api.ErrDown)
		for range 3 {
			wantE(t, "Write", d.Write(1, "b"), api.ErrDown)
			wantE(t, "Flush", d.Flush(), api.ErrDown)
		}
		wantIs(t, "down", d, 2, n, true, n)
	}
}

// P7.2, P7.3: of several refusals the first one of the chapter is told.
func TestFirstRefusal(t *testing.T) {
	long := strings.Repeat("a", 65)
	for what, d := range map[string]*Disk{"nil": nil, "plain": {}} {
		wantCalls(t, what, d, []int{0, 5, -1}, []string{"a", long}, api.ErrNil, api.ErrNil)
	}
	// Without power: whatever is wrong beside, and whether it was armed or not.
	for _, arm := range []int{-1, 0, 3} {
		d := made(t, 2)
		wantE(t, "Arm", d.Arm(arm), api.OK)
		wantE(t, "Off", d.Off(), api.OK)
		wantCalls(t, "down", d, []int{0, 2, -1}, []string{"a", long}, api.ErrDown, api.OK)
	}
	d := made(t, 2)
	for _, arm := range []int{-1, 0, 3} {
		wantE(t, "Arm", d.Arm(arm), api.OK)
		wantE(t, "no sector, and too long", d.Write(2, long), api.ErrArg)
		wantE(t, "no sector", d.Write(-1, "a"), api.ErrArg)
		wantE(t, "too long", d.Write(1, long), api.ErrLong)
		wantE(t, "On with power", d.On(nil), api.ErrState)
		wantIs(t, "refused", d, 2, 0, false, 0)
	}
}

// wantCalls fails, if a call with these places and texts tells another error than the one given, On another than on, or if the disk is changed.
func wantCalls(t *testing.T, what string, d *Disk, places []int, texts []string, want, on api.Errno) {
	t.Helper()
	size, pending, down, done := d.Size(), d.Pending(), d.Down(), d.Done()
	for _, i := range places {
		if s, e := d.Read(i); s != "" || e != want {
			t.Errorf("%s: Read(%d): %q, %d", what, i, s, e)
		}
		for _, s := range texts {
			wantE(t, what+": Write", d.Write(i, s), want)
		}
		wantE(t, what+": Arm", d.Arm(i), want)
	}
	wantE(t, what+": Flush", d.Flush(), want)
	wantE(t, what+": Off", d.Off(), want)
	wantIs(t, what, d, size, pending, down, done)
	wantE(t, what+": On", d.On([]bool{true}), on)
}

// P7.3: Off lets the power go at once, armed or not; behind On it is not armed.
func TestOffWhileArmed(t *testing.T) {
	for _, n := range []int{-1, 0, 1, 5} {
		d := made(t, 2)
		mustWrite(t, d, 0, "a")
		wantE(t, "Arm", d.Arm(n), api.OK)
		wantE(t, "Off", d.Off(), api.OK)
		wantIs(t, "off", d, 2, 1, true, 1)
		wantE(t, "Off again", d.Off(), api.ErrDown)
		wantE(t, "Arm", d.Arm(n), api.ErrDown)
		wantIs(t, "off", d, 2, 1, true, 1)
		wantE(t, "On", d.On([]bool{true}), api.OK)
		wantHas(t, "on", d, "a", "")
		for k := range 50 {
			wantE(t, "not armed", oneOf(d, "wf", k), api.OK)
		}
		wantIs(t, "not armed", d, 2, 0, false, 51)
	}
}

// P7.3: behind a loss of power by arming On brings a disk that is not armed, too.
func TestOnIsNotArmed(t *testing.T) {
	for n := range 4 {
		d := made(t, 1)
		wantE(t, "Arm", d.Arm(n), api.OK)
		for range n {
			wantE(t, "Flush", d.Flush(), api.OK)
		}
		wantE(t, "Flush", d.Flush(), api.ErrDown)
		wantE(t, "Arm without power", d.Arm(n), api.ErrDown)
		wantE(t, "On", d.On(nil), api.OK)
		for range 50 {
			wantE(t, "Flush", d.Flush(), api.OK)
		}
		wantIs(t, "not armed", d, 1, 0, false, n+50)
	}
}

// P7.3: On with power is refused, and changes nothing: what is pending stays so, and how it is armed.
func TestOnWithPower(t *testing.T) {
	d := made(t, 2)
	wantE(t, "On of a new disk", d.On(nil), api.ErrState)
	mustWrite(t, d, 0, "a")
	wantE(t, "Arm", d.Arm(1), api.OK)
	for _, keep := range [][]bool{nil, {}, {false}, {true}, {true, true}} {
		wantE(t, "On", d.On(keep), api.ErrState)
	}
	wantIs(t, "refused", d, 2, 1, false, 1)
	wantHas(t, "refused", d, "a", "")
	mustWrite(t, d, 1, "b")
	wantE(t, "the power goes", d.Write(1, "c"), api.ErrDown)
	wantE(t, "On", d.On([]bool{false, true}), api.OK)
	wantHas(t, "on", d, "", "b")
	wantE(t, "On again", d.On([]bool{true, true}), api.ErrState)
	wantHas(t, "on", d, "", "b")
}

// P7.3: the i-th pending write is kept, if the list has an i-th one that is true, whatever its length.
func TestOnKeeps(t *testing.T) {
	const n = 5
	for length := range n + 3 {
		for bits := range 1 << length {
			keep := make([]bool, length)
			want := make([]string, n)
			for i := range keep {
				keep[i] = bits>>i&1 == 1
				if keep[i] && i < n {
					want[n-1-i] = "new"
				}
			}
			d := made(t, n)
			for i := range n {
				// Not in the order of the sectors: the list goes by the writes.
				mustWrite(t, d, n-1-i, "new")
			}
			wantE(t, "Off", d.Off(), api.OK)
			wantE(t, "On", d.On(keep), api.OK)
			wantHas(t, "kept", d, want...)
			wantIs(t, "on", d, n, 0, false, n)
		}
	}
}

// P7.3: of two pending writes of one sector the last one that is kept is there.
func TestOnKeepsOfOneSector(t *testing.T) {
	for _, c := range []struct {
		keep []bool
		want string
	}{
		{nil, "old"}, {[]bool{}, "old"}, {[]bool{false}, "old"}, {[]bool{false, false}, "old"},
		{[]bool{true}, "first"}, {[]bool{true, false}, "first"}, {[]bool{false, true}, "second"}, {[]bool{true, true}, "second"},
		{[]bool{false, false, true}, "old"}, {[]bool{true, false, true}, "first"}, {[]bool{true, true, false}, "second"},
	} {
		d := made(t, 2)
		mustWrite(t, d, 1, "old")
		wantE(t, "Flush", d.Flush(), api.OK)
		mustWrite(t, d, 1, "first", "second")
		wantE(t, "Off", d.Off(), api.OK)
		wantE(t, "On", d.On(c.keep), api.OK)
		wantHas(t, c.want, d, "", c.want)
		wantIs(t, c.want, d, 2, 0, false, 4)
		// What On kept is as good as flushed.
		wantE(t, "Off", d.Off(), api.OK)
		wantE(t, "On", d.On([]bool{true, true}), api.OK)
		wantHas(t, c.want+", without power again", d, "", c.want)
	}
}

// P7.4: nil, and what New did not make, tell 0, true, 0 and Size 0, refuse all, and stay as they are.
func TestNotMade(t *testing.T) {
	for what, d := range map[string]*Disk{"nil": nil, "plain": {}, "new": new(Disk)} {
		wantIs(t, what, d, 0, 0, true, 0)
		wantCalls(t, what, d, []int{0, 1, -1, math.MinInt, math.MaxInt}, []string{"", "a", strings.Repeat("a", 64), strings.Repeat("a", 65)}, api.ErrNil, api.ErrNil)
		wantE(t, what+": On of nil", d.On(nil), api.ErrNil)
		wantIs(t, what, d, 0, 0, true, 0)
	}
}

// P7.4: Pending, Down and Done change nothing, and tell it at each step.
func TestHowItIs(t *testing.T) {
	d := made(t, 3)
	for k := range 10 {
		mustWrite(t, d, k%3, "a")
		for range 3 {
			wantIs(t, "written", d, 3, k+1, false, k+1)
		}
	}
	wantE(t, "Flush", d.Flush(), api.OK)
	wantIs(t, "flushed", d, 3, 0, false, 11)
	mustWrite(t, d, 0, "b", "c")
	wantE(t, "Off", d.Off(), api.OK)
	for range 3 {
		wantIs(t, "off", d, 3, 2, true, 13)
	}
	wantE(t, "On", d.On([]bool{true}), api.OK)
	wantIs(t, "on", d, 3, 0, false, 13)
	mustWrite(t, d, 0, "d")
	wantIs(t, "written again", d, 3, 1, false, 14)
}

// P7.2: what Read told stays as it was, whatever becomes of the sector.
func TestReadStays(t *testing.T) {
	d := made(t, 1)
	var told, want []string
	look := func(s string) {
		t.Helper()
		got, e := d.Read(0)
		wantE(t, "Read", e, api.OK)
		told, want = append(told, got), append(want, filled(s))
	}
	look("")
	mustWrite(t, d, 0, "first")
	look("first")
	mustWrite(t, d, 0, "other")
	look("other")
	wantE(t, "Flush", d.Flush(), api.OK)
	look("other")
	mustWrite(t, d, 0, "third")
	wantE(t, "Flush", d.Flush(), api.OK)
	look("third")
	wantE(t, "Off", d.Off(), api.OK)
	wantE(t, "On", d.On(nil), api.OK)
	mustWrite(t, d, 0, "again")
	if !slices.Equal(told, want) {
		t.Errorf("told %q, want %q", told, want)
	}
}

// P7.2, P7.3: what was given to Write and On is not changed, and not kept, nor is what lies behind a list's length looked at.
func TestGivenIsNotKept(t *testing.T) {
	d := made(t, 3)
	text := []byte("abc")
	wantE(t, "Write", d.Write(0, unsafe.String(&text[0], len(text))), api.OK)
	if string(text) != "abc" {
		t.Errorf("given text is %q", text)
	}
	copy(text, "xyz")
	wantHas(t, "the text changed", d, "abc")
	mustWrite(t, d, 1, "b")
	mustWrite(t, d, 2, "c")
	wantE(t, "Off", d.Off(), api.OK)
	keep := []bool{true, false, true}
	wantE(t, "On", d.On(keep[:2]), api.OK)
	if !slices.Equal(keep, []bool{true, false, true}) {
		t.Errorf("given list is %v", keep)
	}
	keep[0], keep[1] = false, true
	wantHas(t, "the list changed", d, "abc", "", "")
	mustWrite(t, d, 1, "b")
	wantE(t, "Off", d.Off(), api.OK)
	wantE(t, "On", d.On(nil), api.OK)
	wantHas(t, "without a list", d, "abc", "", "")
}

// P7.1: two disks share nothing.
func TestTwoDisks(t *testing.T) {
	a, b := made(t, 2), made(t, 3)
	mustWrite(t, a, 0, "a")
	wantE(t, "Arm", a.Arm(1), api.OK)
	mustWrite(t, b, 0, "b")
	mustWrite(t, b, 1, "b")
	wantIs(t, "a", a, 2, 1, false, 1)
	wantIs(t, "b", b, 3, 2, false, 2)
	wantHas(t, "a", a, "a", "")
	wantHas(t, "b", b, "b", "b", "")
	wantE(t, "Off", b.Off(), api.OK)
	wantE(t, "Flush", a.Flush(), api.OK)
	wantE(t, "Flush", a.Flush(), api.ErrDown)
	wantE(t, "On", b.On([]bool{false, true}), api.OK)
	wantHas(t, "b", b, "", "b", "")
	wantIs(t, "a", a, 2, 0, true, 2)
	wantIs(t, "b", b, 3, 0, false, 2)
	wantE(t, "On", a.On(nil), api.OK)
	wantHas(t, "a", a, "a", "")
}

// P7.3, P7.5: the chapter's example.
func TestExample(t *testing.T) {
	d := made(t, 2)
	mustWrite(t, d, 0, "a")
	wantE(t, "Flush", d.Flush(), api.OK)
	mustWrite(t, d, 0, "b")
	mustWrite(t, d, 1, "c")
	wantE(t, "Off", d.Off(), api.OK)
	wantE(t, "On", d.On([]bool{false, true}), api.OK)
	wantHas(t, "example", d, "a", "c")
}

// deed is something that was done to a disk: a write to a sector (at from 0 on), or, with keepAll, a Flush, or a loss of power with what was kept of it.
type deed struct {
	at      int
	data    string
	keepAll bool
	keep    []bool
}

// lost tells whether the k-th deed, a write, was lost with the power.
func lost(deeds []deed, k int) bool {
	first, end := k, k
	for first > 0 && deeds[first-1].at >= 0 {
		first--
	}
	for end < len(deeds) && deeds[end].at >= 0 {
		end++
	}
	if end == len(deeds) || deeds[end].keepAll {
		return false
	}
	keep := deeds[end].keep
	return k-first >= len(keep) || !keep[k-first]
}

// plainHas tells what a sector has, by all that was ever done: the last of its writes that was not lost.
func plainHas(deeds []deed, i int) string {
	has := ""
	for k, d := range deeds {
		if d.at == i && !lost(deeds, k) {
			has = d.data
		}
	}
	return has
}

// randomKeep tells a list about as long as what is pending, or none.
func randomKeep(row *rand.Rand, pending int) []bool {
	keep := make([]bool, row.IntN(pending+3))
	for i := range keep {
		keep[i] = row.IntN(2) == 1
	}
	return keep
}

// plainDisk is a disk as its deeds tell it.
type plainDisk struct {
	deeds         []deed
	pending, done int
	left          int // below 0: not armed
	down          bool
}

// spend tells what a Write or a Flush answers, and what becomes of the disk.
func (p *plainDisk) spend(d deed) api.Errno {
	if p.left == 0 {
		p.down = true
		return api.ErrDown
	}
	p.left--
	p.done++
	p.pending++
	if d.keepAll {
		p.pending = 0
	}
	p.deeds = append(p.deeds, d)
	return api.OK
}

// anyDeed does something to both disks, and fails, if the one answers otherwise.
func anyDeed(t *testing.T, row *rand.Rand, d *Disk, p *plainDisk) {
	t.Helper()
	switch what := row.IntN(12); {
	case p.down:
		wantE(t, "down", oneOf(d, "wf", what), api.ErrDown)
		keep := randomKeep(row, p.pending)
		wantE(t, "On", d.On(keep), api.OK)
		p.deeds = append(p.deeds, deed{at: -1, keep: keep})
		p.pending, p.left, p.down = 0, -1, false
	case what < 7:
		at, text := row.IntN(d.Size()), strings.Repeat(string(rune('a'+row.IntN(26))), row.IntN(65))
		wantE(t, "Write", d.Write(at, text), p.spend(deed{at: at, data: text}))
	case what < 9:
		wantE(t, "Flush", d.Flush(), p.spend(deed{at: -1, keepAll: true}))
	case what < 11:
		p.left = row.IntN(12) - 2
		wantE(t, "Arm", d.Arm(p.left), api.OK)
	default:
		wantE(t, "Off", d.Off(), api.OK)
		p.down = true
	}
}

// P7.2 to P7.5: whatever is done in whatever order, the disk is as its deeds tell it.
func TestAnyDeeds(t *testing.T) {
	row := fixedRow()
	for range 300 {
		n := 1 + row.IntN(4)
		d, p := made(t, n), &plainDisk{left: -1}
		for range 60 {
			anyDeed(t, row, d, p)
			wantIs(t, "any deeds", d, n, p.pending, p.down, p.done)
			for i := range n {
				want, refusal := filled(plainHas(p.deeds, i)), api.OK
				if p.down {
					want, refusal = "", api.ErrDown
				}
				if s, e := d.Read(i); s != want || e != refusal {
					t.Errorf("sector %d has %q, %d, want %q, %d", i, s, e, want, refusal)
				}
			}
			if t.Failed() {
				t.FailNow()
			}
		}
	}
}

// P7.5: wherever the power goes in a row of writes, what was flushed is there, unless its sector was written to later, and each sector has something whole.
func TestFlushedStays(t *testing.T) {
	const n = 3
	row := fixedRow()
	for goes := range 40 {
		for range 20 {
			d := made(t, n)
			wantE(t, "Arm", d.Arm(goes), api.OK)
			var flushed [n]string
			var later [n][]string
			var last [n]string
			for k := 0; ; k++ {
				i, text := row.IntN(n), strings.Repeat(string(rune('A'+k)), 1+row.IntN(64))
				if d.Write(i, text) != api.OK {
					break
				}
				last[i], later[i] = text, append(later[i], text)
				if row.IntN(4) > 0 {
					continue
				}
				if d.Flush() != api.OK {
					break
				}
				flushed, later = last, [n][]string{}
			}
			wantE(t, "On", d.On(randomKeep(row, d.Pending())), api.OK)
			for i := range n {
				s, e := d.Read(i)
				may := append(later[i], flushed[i])
				if e != api.OK || !slices.ContainsFunc(may, func(m string) bool { return s == filled(m) }) {
					t.Fatalf("sector %d has %q, %d, want one of %q", i, s, e, may)
				}
			}
		}
	}
}

// P7.2: a great disk with much that is pending is read, flushed and lost in a time that can be waited for.
func TestGreat(t *testing.T) {
	d := made(t, api.MaxSectors)
	for i := range api.MaxSectors {
		wantE(t, "Write", d.Write(i, "a"), api.OK)
	}
	wantIs(t, "written", d, api.MaxSectors, api.MaxSectors, false, api.MaxSectors)
	wantE(t, "Flush", d.Flush(), api.OK)
	for i := range api.MaxSectors {
		wantE(t, "Write", d.Write(api.MaxSectors-1-i, "b"), api.OK)
	}
	wantE(t, "Off", d.Off(), api.OK)
	keep := make([]bool, api.MaxSectors)
	for i := range keep {
		keep[i] = i%2 == 0
	}
	wantE(t, "On", d.On(keep), api.OK)
	for i := range api.MaxSectors {
		if s, _ := d.Read(i); s[0] != "ab"[i%2] || s[1:] != filled("")[1:] {
			t.Fatalf("sector %d has %q", i, s)
		}
	}
}
