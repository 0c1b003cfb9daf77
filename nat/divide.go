package nat

// DivSmall: what a divided by d is, cut off, and what is left; of d 0 nothing, 0.
func DivSmall(a []uint32, d uint32) ([]uint32, uint32) {
	if d == 0 {
		return nil, 0
	}
	quotient := make([]uint32, len(a))
	left := divInto(quotient, a, d)
	return trim(quotient), left
}

// Div: what a divided by b is, cut off, and what is left; of b nought nothing, nothing.
func Div(a, b []uint32) ([]uint32, []uint32) {
	a, b = trim(a), trim(b)
	if len(b) == 0 {
		return nil, nil
	}
	if len(b) == 1 {
		quotient, left := DivSmall(a, b[0])
		return quotient, trim([]uint32{left})
	}
	if len(a) < len(b) {
		return nil, Norm(a)
	}
	return divLong(a, b)
}

// divInto writes a divided by d into quotient, which is as long as a and may be a itself; it tells what is left.
func divInto(quotient, a []uint32, d uint32) uint32 {
	left := uint64(0)
	for i := len(a) - 1; i >= 0; i-- {
		two := left<<limbBits | uint64(a[i])
		quotient[i] = uint32(two / uint64(d))
		left = two % uint64(d)
	}
	return uint32(left)
}

// divLong divides by a number of two limbs or more, digit by digit from the highest; a has no fewer limbs than b.
func divLong(a, b []uint32) ([]uint32, []uint32) {
	// With b's highest bit at its limb's top a guess is too great by 2 at most.
	up := len(b)*limbBits - Bits(b)
	by := Shift(b, up)
	rest := make([]uint32, len(a)+1)
	copy(rest, Shift(a, up))
	quotient := make([]uint32, len(a)-len(b)+1)
	left := make([]uint32, len(b)+1)
places:
	for at := len(quotient) - 1; at >= 0; at-- {
		part := rest[at : at+len(left)]
		for guess := guessDigit(part, by); guess > 0; guess-- {
			if takeAway(left, part, by, guess) {
				copy(part, left)
				quotient[at] = uint32(guess)
				continue places
			}
		}
	}
	return trim(quotient), Shift(rest, -up)
}

// guessDigit divides part's two highest limbs by by's highest: never below the digit that is sought.
func guessDigit(part, by []uint32) uint64 {
	top := len(by)
	two := uint64(part[top])<<limbBits | uint64(part[top-1])
	return min(two/uint64(by[top-1]), limbMask)
}

// takeAway writes part less times by into left, which is as long as part; false if that goes below nought.
func takeAway(left, part, by []uint32, times uint64) bool {
	carry, borrow := uint64(0), uint64(0)
	for i, x := range part {
		carry += limbAt(by, i) * times
		// The base is lent ahead, so that nothing goes below 0.
		d := limbBase + uint64(x) - carry&limbMask - borrow
		left[i] = uint32(d)
		borrow = 1 - d>>limbBits
		carry >>= limbBits
	}
	return borrow == 0
}
