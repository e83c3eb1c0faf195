// Package castagnoli is layer 1: CRC-32C, and the sum of what lies one behind the other, by the sums of its parts. See shared/doc/01-castagnoli.md.
package castagnoli

import "aquifer/api"

// nibbles holds what the lowest four bits of a register leave behind when they have gone out of it.
var nibbles = [16]uint32{
	0x00000000, 0x105ec76f, 0x20bd8ede, 0x30e349b1,
	0x417b1dbc, 0x5125dad3, 0x61c69362, 0x7198540d,
	0x82f63b78, 0x92a8fc17, 0xa24bb5a6, 0xb21572c9,
	0xc38d26c4, 0xd3d3e1ab, 0xe330a81a, 0xf36e6f75,
}

// rows is a change of the register that goes bit by bit: rows[i] is what becomes of the bit i alone.
type rows [32]uint32

// Sum tells the sum of bytes.
func Sum(b []byte) uint32 {
	return Update(0, b)
}

// Update tells the sum of what had the sum sum, and b behind it.
func Update(sum uint32, b []byte) uint32 {
	register := ^sum
	for _, x := range b {
		register = take(register, x)
	}
	return ^register
}

// Zeros tells the sum of n noughts.
func Zeros(n int) (uint32, api.Errno) {
	if !countFits(n) {
		return 0, api.ErrArg
	}
	return ^takeNoughts(^uint32(0), n), api.OK
}

// Combine tells the sum of bytes of the sum a with n bytes of the sum b behind them.
func Combine(a, b uint32, n int) (uint32, api.Errno) {
	if !countFits(n) {
		return 0, api.ErrArg
	}
	// The bits that both parts' sums turn at the beginning and at the end cancel out, so a goes in as it is.
	return takeNoughts(a, n) ^ b, api.OK
}

func countFits(n int) bool {
	return n >= 0 && n <= api.MaxBytes
}

// take takes a byte into the register, four bits at a time.
func take(register uint32, x byte) uint32 {
	register ^= uint32(x)
	register = register>>4 ^ nibbles[register&15]
	return register>>4 ^ nibbles[register&15]
}

// takeNoughts takes n noughts in, by squares: one row for each bit of n instead of one step for each nought.
func takeNoughts(register uint32, n int) uint32 {
	shift := oneNought()
	for n > 0 {
		if n&1 == 1 {
			register = shift.change(register)
		}
		n >>= 1
		shift = shift.squared()
	}
	return register
}

func oneNought() rows {
	var r rows
	for i := range r {
		r[i] = take(1<<i, 0)
	}
	return r
}

func (r rows) change(register uint32) uint32 {
	var out uint32
	for i := range r {
		if register>>i&1 == 1 {
			out ^= r[i]
		}
	}
	return out
}

// squared is the change done twice.
func (r rows) squared() rows {
	var out rows
	for i := range r {
		out[i] = r.change(r[i])
	}
	return out
}
