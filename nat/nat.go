// Package nat is layer 1: numbers from nought on, in limbs to base 2^32, the lowest first. See shared/doc/01-nat.md.
package nat

import "math/bits"

const (
	limbBits = 32
	limbBase = uint64(1) << limbBits
	limbMask = limbBase - 1

	// mostShift is where a shift's count ends, to either side.
	mostShift = 4096

	// smallBits is how many bits the greatest int has.
	smallBits = 63
)

// Norm: a without limbs of 0 at its end.
func Norm(a []uint32) []uint32 {
	a = trim(a)
	out := make([]uint32, len(a))
	copy(out, a)
	return out
}

// Cmp: -1, 0 or 1, as a is below b, the same, or above it.
func Cmp(a, b []uint32) int {
	for i := max(len(a), len(b)) - 1; i >= 0; i-- {
		x, y := limbAt(a, i), limbAt(b, i)
		if x < y {
			return -1
		}
		if x > y {
			return 1
		}
	}
	return 0
}

// Add: the sum.
func Add(a, b []uint32) []uint32 {
	sum := make([]uint32, max(len(a), len(b))+1)
	carry := uint64(0)
	for i := range sum {
		carry += limbAt(a, i) + limbAt(b, i)
		sum[i] = uint32(carry)
		carry >>= limbBits
	}
	return trim(sum)
}

// Sub: a less b; nought of b above a.
func Sub(a, b []uint32) []uint32 {
	if Cmp(a, b) <= 0 {
		return nil
	}
	rest := make([]uint32, len(a))
	borrow := uint64(0)
	for i := range rest {
		// The base is lent ahead, so that nothing goes below 0.
		d := limbBase + limbAt(a, i) - limbAt(b, i) - borrow
		rest[i] = uint32(d)
		borrow = 1 - d>>limbBits
	}
	return trim(rest)
}

// Mul: the product.
func Mul(a, b []uint32) []uint32 {
	a, b = trim(a), trim(b)
	product := make([]uint32, len(a)+len(b))
	for i, x := range a {
		carry := uint64(0)
		for j, y := range b {
			// At most (2^32-1)^2 + 2(2^32-1), which is 2^64-1.
			carry += uint64(x)*uint64(y) + uint64(product[i+j])
			product[i+j] = uint32(carry)
			carry >>= limbBits
		}
		product[i+len(b)] = uint32(carry)
	}
	return trim(product)
}

// Shift: a times 2^n; of n below 0 divided by 2^-n, cut off.
func Shift(a []uint32, n int) []uint32 {
	// Cut ahead of the change of sign: the lowest int has no opposite.
	n = min(max(n, -mostShift), mostShift)
	if n < 0 {
		return shiftDown(trim(a), -n)
	}
	return shiftUp(trim(a), n)
}

// Bits: how many bits a has.
func Bits(a []uint32) int {
	a = trim(a)
	if len(a) == 0 {
		return 0
	}
	return (len(a)-1)*limbBits + bits.Len32(a[len(a)-1])
}

// Small: the number, if it is at most 2^63 - 1.
func Small(a []uint32) (int, bool) {
	if Bits(a) > smallBits {
		return 0, false
	}
	return int(limbAt(a, 1)<<limbBits | limbAt(a, 0)), true
}

func shiftUp(a []uint32, n int) []uint32 {
	limbs, rest := n/limbBits, n%limbBits
	out := make([]uint32, len(a)+limbs+1)
	carry := uint64(0)
	for i, x := range a {
		carry |= uint64(x) << rest
		out[i+limbs] = uint32(carry)
		carry >>= limbBits
	}
	out[len(a)+limbs] = uint32(carry)
	return trim(out)
}

func shiftDown(a []uint32, n int) []uint32 {
	limbs, rest := n/limbBits, n%limbBits
	out := make([]uint32, max(len(a)-limbs, 0))
	for i := range out {
		two := limbAt(a, i+limbs+1)<<limbBits | limbAt(a, i+limbs)
		out[i] = uint32(two >> rest)
	}
	return trim(out)
}

// trim cuts limbs of 0 off a's end. It shares a's memory: what it tells of an argument is never handed out.
func trim(a []uint32) []uint32 {
	n := len(a)
	for n > 0 && a[n-1] == 0 {
		n--
	}
	return a[:n]
}

// limbAt is 0 behind the end, so that numbers of unlike lengths go side by side.
func limbAt(a []uint32, i int) uint64 {
	if i < len(a) {
		return uint64(a[i])
	}
	return 0
}
