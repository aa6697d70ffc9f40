// Package sum is layer 1: sums of bytes (CRC-32C), what can be reckoned out of sums alone, and bytes that bear their sum. See shared/doc/01-sum.md.
package sum

import "lien/api"

const (
	turner  = 0x82F63B78 // by what a register is turned when a 1 falls out of it
	longest = 1 << 20    // a length above this counts as this
	width   = 4          // how many bytes a sum has
)

// Of is the sum of bytes.
func Of(b []byte) uint32 {
	return More(0, b)
}

// More is the sum of bytes whose sum is known, and of others behind them.
func More(c uint32, b []byte) uint32 {
	rows := rowsOfBytes()
	r := ^c
	for _, x := range b {
		r = r>>8 ^ rows[byte(r)^x]
	}
	return ^r
}

// Join is the sum of two texts, out of their sums, and how many bytes the second one has.
func Join(a, b uint32, n int) uint32 {
	return zeros(a, length(n)) ^ b
}

// Bent is by what a bit that is turned turns a sum.
func Bent(n, bit int) uint32 {
	n = length(n)
	if bit < 0 || bit >= 8*n {
		return 0
	}
	// The zeros ahead leave a register of 0 as it is; and to turn it by a byte, and make eight steps, is to let a 0 into a register that is that byte.
	return zeros(1<<(bit%8), n-bit/8)
}

// Seal is bytes with their sum behind them.
func Seal(b []byte) []byte {
	out := make([]byte, 0, len(b)+width)
	out = append(out, b...)
	c := Of(b)
	for i := range width {
		out = append(out, byte(c>>(8*i)))
	}
	return out
}

// Open is bytes without the sum behind them.
func Open(b []byte) ([]byte, api.Errno) {
	n := len(b) - width
	if n < 0 {
		return nil, api.ErrSum
	}
	var c uint32
	for i, x := range b[n:] {
		c |= uint32(x) << (8 * i)
	}
	if c != Of(b[:n]) {
		return nil, api.ErrSum
	}
	return append([]byte(nil), b[:n]...), api.OK
}

// length is a length as it counts.
func length(n int) int {
	return min(max(n, 0), longest)
}

// step is a register behind one step.
func step(r uint32) uint32 {
	// A mask in place of a branch: which bit falls out can't be foretold.
	return r>>1 ^ turner&-(r&1)
}

// rowsOfBytes is what each byte makes of a register of 0.
func rowsOfBytes() [256]uint32 {
	var rows [256]uint32
	for i := range 256 {
		// Steps are linear, so bytes of one bit are enough to know the others by: this is made anew by each call, and is to cost less than the bytes do.
		if low := i & -i; low != i {
			rows[i] = rows[low] ^ rows[i^low]
		} else {
			rows[i] = eightSteps(uint32(i))
		}
	}
	return rows
}

// eightSteps is a register behind eight steps.
func eightSteps(r uint32) uint32 {
	for range 8 {
		r = step(r)
	}
	return r
}

// zeros is a register into which n bytes 0 went.
//
// A register is a polynomial over the bits, whose highest bit is that of x^0, and a step is a product with x. So n bytes 0 are a product with x^(8 n), which is made out of squares: their cost is that of the bits of n, not of n.
func zeros(r uint32, n int) uint32 {
	square := uint32(1) << (31 - 8)
	for ; n > 0; n >>= 1 {
		if n&1 == 1 {
			r = product(r, square)
		}
		square = product(square, square)
	}
	return r
}

// product is that of two registers as polynomials, as far as steps tell them apart.
func product(a, b uint32) uint32 {
	var p uint32
	for i := range 32 {
		p ^= b & -(a >> (31 - i) & 1)
		b = step(b)
	}
	return p
}
