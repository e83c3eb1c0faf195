package castagnoli

import (
	"bytes"
	"math"
	"testing"

	"aquifer/api"
)

// takeByBits is the document's own word for how a byte is taken in: what the table must come to.
func takeByBits(register uint32, x byte) uint32 {
	register ^= uint32(x)
	for range 8 {
		low := register & 1
		register >>= 1
		if low == 1 {
			register ^= 0x82f63b78
		}
	}
	return register
}

func takeAll(register uint32, b []byte) uint32 {
	for _, x := range b {
		register = takeByBits(register, x)
	}
	return register
}

func sumByBits(b []byte) uint32 {
	return ^takeAll(math.MaxUint32, b)
}

// numbers tells the next of a fixed row of numbers, so that each run has the same ones.
func numbers() func() uint32 {
	state := uint64(0x9e3779b97f4a7c15)
	return func() uint32 {
		state ^= state << 13
		state ^= state >> 7
		state ^= state << 17
		return uint32(state >> 32)
	}
}

func someBytes(next func() uint32, n int) []byte {
	b := make([]byte, n)
	for i := range b {
		b[i] = byte(next())
	}
	return b
}

func rising(n int) []byte {
	b := make([]byte, n)
	for i := range b {
		b[i] = byte(i)
	}
	return b
}

// P1.1

func TestSumOfKnownBytes(t *testing.T) {
	falling := rising(32)
	for i := range falling {
		falling[i] = byte(31 - i)
	}
	for _, c := range []struct {
		b    []byte
		want uint32
	}{
		{nil, 0},
		{[]byte{}, 0},
		{[]byte("a"), 0xc1d04330},
		{[]byte("123456789"), 0xe3069283},
		{make([]byte, 32), 0x8a9136aa},
		{bytes.Repeat([]byte{255}, 32), 0x62a8ab43},
		{rising(32), 0x46dd794e},
		{falling, 0x113fdb5c},
	} {
		if got := Sum(c.b); got != c.want {
			t.Errorf("Sum(%x) = %08x, want %08x", c.b, got, c.want)
		}
	}
}

func TestSumIsTheRegisters(t *testing.T) {
	for x := range 256 {
		b := []byte{byte(x)}
		if got, want := Sum(b), sumByBits(b); got != want {
			t.Errorf("Sum(%x) = %08x, want %08x", b, got, want)
		}
	}
	next := numbers()
	for n := range 300 {
		b := someBytes(next, n)
		if got, want := Sum(b), sumByBits(b); got != want {
			t.Errorf("%d bytes: %08x, want %08x", n, got, want)
		}
	}
	b := someBytes(next, api.MaxBytes+3)
	if got, want := Sum(b), sumByBits(b); got != want {
		t.Errorf("more than MaxBytes: %08x, want %08x", got, want)
	}
}

func TestUpdateAtEachPlace(t *testing.T) {
	b := someBytes(numbers(), 100)
	want := sumByBits(b)
	for i := range len(b) + 1 {
		if got := Update(Sum(b[:i]), b[i:]); got != want {
			t.Errorf("cut at %d: %08x, want %08x", i, got, want)
		}
	}
}

func TestUpdateOfAnySum(t *testing.T) {
	next := numbers()
	for _, sum := range []uint32{0, 1, 1 << 31, math.MaxUint32, 0xe3069283, next(), next()} {
		for _, b := range [][]byte{nil, {}} {
			if got := Update(sum, b); got != sum {
				t.Errorf("Update(%08x, no bytes) = %08x", sum, got)
			}
		}
		for n := range 40 {
			b := someBytes(next, n)
			if got, want := Update(sum, b), ^takeAll(^sum, b); got != want {
				t.Errorf("Update(%08x, %x) = %08x, want %08x", sum, b, got, want)
			}
		}
	}
}

func TestBytesAreLeftAlone(t *testing.T) {
	whole := []byte("123456789 and more")
	b := whole[:9]
	if got := Sum(b); got != 0xe3069283 {
		t.Errorf("Sum reads behind the length: %08x", got)
	}
	if got := Update(Sum(whole[:4]), whole[4:9]); got != 0xe3069283 {
		t.Errorf("Update reads behind the length: %08x", got)
	}
	if string(whole) != "123456789 and more" {
		t.Errorf("the bytes were changed: %q", whole)
	}
}

// P1.2

func TestZeros(t *testing.T) {
	register := uint32(math.MaxUint32)
	for n := range api.MaxBytes + 1 {
		// The first ones, and those beside each power of two: all rows of squares are used there.
		if n <= 600 || n&(n-1) == 0 || n&(n+1) == 0 || (n-1)&(n-2) == 0 || n == 999999 {
			got, e := Zeros(n)
			if got != ^register || e != api.OK {
				t.Errorf("Zeros(%d) = %08x, %v, want %08x", n, got, e, ^register)
			}
		}
		register = takeByBits(register, 0)
	}
}

func TestZerosIsSum(t *testing.T) {
	for _, n := range []int{0, 1, 32, api.MaxBytes} {
		got, e := Zeros(n)
		if want := Sum(make([]byte, n)); got != want || e != api.OK {
			t.Errorf("Zeros(%d) = %08x, %v, want %08x", n, got, e, want)
		}
	}
	if got, e := Zeros(32); got != 0x8a9136aa || e != api.OK {
		t.Errorf("Zeros(32) = %08x, %v", got, e)
	}
}

func TestCountsThatMayNotBe(t *testing.T) {
	for _, n := range []int{math.MinInt, -api.MaxBytes, -1, api.MaxBytes + 1, 1 << 32, math.MaxInt} {
		if got, e := Zeros(n); got != 0 || e != api.ErrArg {
			t.Errorf("Zeros(%d) = %08x, %v, want 0, ErrArg", n, got, e)
		}
		if got, e := Combine(0x12345678, 0x9abcdef0, n); got != 0 || e != api.ErrArg {
			t.Errorf("Combine(.., %d) = %08x, %v, want 0, ErrArg", n, got, e)
		}
	}
}

func TestCombineAtEachPlace(t *testing.T) {
	got, e := Combine(Sum([]byte("1234")), Sum([]byte("56789")), 5)
	if got != 0xe3069283 || e != api.OK {
		t.Errorf("the document's example: %08x, %v", got, e)
	}
	b := someBytes(numbers(), 300)
	want := sumByBits(b)
	for i := range len(b) + 1 {
		got, e := Combine(Sum(b[:i]), Sum(b[i:]), len(b)-i)
		if got != want || e != api.OK {
			t.Errorf("cut at %d: %08x, %v, want %08x", i, got, e, want)
		}
	}
}

func TestCombineOfMaxBytes(t *testing.T) {
	next := numbers()
	a, b := someBytes(next, 77), someBytes(next, api.MaxBytes)
	for _, n := range []int{api.MaxBytes - 1, api.MaxBytes} {
		got, e := Combine(Sum(a), Sum(b[:n]), n)
		if want := Update(Sum(a), b[:n]); got != want || e != api.OK {
			t.Errorf("%d: %08x, %v, want %08x", n, got, e, want)
		}
	}
}

func TestCombineOfAnySums(t *testing.T) {
	next := numbers()
	sums := []uint32{0, 1, 1 << 31, math.MaxUint32, next(), next()}
	for _, a := range sums {
		for _, b := range sums {
			for _, n := range []int{0, 1, 2, 3, 63, 64, 65, 1000} {
				got, e := Combine(a, b, n)
				if want := takeAll(a, make([]byte, n)) ^ b; got != want || e != api.OK {
					t.Errorf("Combine(%08x, %08x, %d) = %08x, %v, want %08x", a, b, n, got, e, want)
				}
			}
		}
	}
}

// P1.3

// bitsChanged tells b with the bits of pattern changed from the bit at on: bits stand side by side in the order in which they leave the register, the lowest of a byte first.
func bitsChanged(b []byte, at int, pattern uint32) []byte {
	out := bytes.Clone(b)
	for i := range 32 {
		if pattern>>i&1 == 1 {
			out[(at+i)/8] ^= 1 << ((at + i) % 8)
		}
	}
	return out
}

// TestEachFewBitsAreSeen: by the exclusive or's law below, what changes the sum is what the single bits change together. So no choice of a window's 32 bits goes unseen if, and only if, their 32 changes are free of each other.
func TestEachFewBitsAreSeen(t *testing.T) {
	b := someBytes(numbers(), 40)
	for at := range len(b)*8 - 31 {
		var base rows
		for i := range 32 {
			x := Sum(b) ^ Sum(bitsChanged(b, at, 1<<i))
			for x != 0 {
				top := topBit(x)
				if base[top] == 0 {
					base[top] = x
					break
				}
				x ^= base[top]
			}
			if x == 0 {
				t.Fatalf("from the bit %d on: a change of some of %d bits leaves the sum", at, i+1)
			}
		}
	}
}

func topBit(x uint32) int {
	top := 0
	for x > 1 {
		x >>= 1
		top++
	}
	return top
}

func TestSomeFewBitsAreSeen(t *testing.T) {
	next := numbers()
	for n := 4; n < 60; n++ {
		b := someBytes(next, n)
		for at := range n*8 - 31 {
			for _, pattern := range []uint32{1, 1 << 31, 3, 1<<31 | 1, math.MaxUint32, next() | 1} {
				if Sum(bitsChanged(b, at, pattern)) == Sum(b) {
					t.Errorf("%x: %08x from the bit %d on is not seen", b, pattern, at)
				}
			}
		}
	}
}

// TestFewBitsOfFewBytes: in rows that are shorter than a window each change of all is seen.
func TestFewBitsOfFewBytes(t *testing.T) {
	for n := 1; n <= 2; n++ {
		seen := make(map[uint32]struct{})
		for x := range 1 << (8 * n) {
			seen[Sum([]byte{byte(x), byte(x >> 8)}[:n])] = struct{}{}
		}
		if len(seen) != 1<<(8*n) {
			t.Errorf("rows of %d bytes have %d sums", n, len(seen))
		}
	}
}

func TestSumOfThreeRows(t *testing.T) {
	next := numbers()
	for n := range 200 {
		a, b, c := someBytes(next, n), someBytes(next, n), someBytes(next, n)
		all := make([]byte, n)
		for i := range all {
			all[i] = a[i] ^ b[i] ^ c[i]
		}
		if got, want := Sum(all), Sum(a)^Sum(b)^Sum(c); got != want {
			t.Errorf("%d bytes: %08x, want %08x", n, got, want)
		}
	}
}
