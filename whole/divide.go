package whole

import (
	"pavane/api"
	"pavane/nat"
)

// Quo: a divided by b, cut off toward nought, and what is left, with a's sign; ErrZero of b nought.
func Quo(a, b api.Int) (api.Int, api.Int, api.Errno) {
	if isNought(b) {
		return api.Int{}, api.Int{}, api.ErrZero
	}
	towardNought, _ := divisions(a, b)
	quotient, left := towardNought()
	return quotient, left, api.OK
}

// Floor: a divided by b, cut off downwards, and what is left, with b's sign; ErrZero of b nought.
func Floor(a, b api.Int) (api.Int, api.Int, api.Errno) {
	if isNought(b) {
		return api.Int{}, api.Int{}, api.ErrZero
	}
	_, downwards := divisions(a, b)
	quotient, left := downwards()
	return quotient, left, api.OK
}

// Gcd: the greatest that divides both, not below 0; of two noughts nought.
func Gcd(a, b api.Int) api.Int {
	x, y := nat.Norm(a.L), nat.Norm(b.L)
	for len(y) > 0 {
		_, left := nat.Div(x, y)
		x, y = y, left
	}
	return signed(false, x)
}

// Root: the greatest r with r times r not above a, and what is left; ErrArg of a below 0.
func Root(a api.Int) (api.Int, api.Int, api.Errno) {
	if below(a) {
		return api.Int{}, api.Int{}, api.ErrArg
	}
	root := rootOf(a.L)
	left := nat.Sub(a.L, nat.Mul(root, root))
	return signed(false, root), signed(false, left), api.OK
}

// division tells a quotient and what is left.
type division func() (api.Int, api.Int)

// divisions are both ways to cut off, over one quotient of limbs. b is not nought.
func divisions(a, b api.Int) (towardNought, downwards division) {
	quotient, left := nat.Div(a.L, b.L)
	unlike := a.Neg != b.Neg
	towardNought = func() (api.Int, api.Int) {
		return signed(unlike, quotient), signed(a.Neg, left)
	}
	downwards = func() (api.Int, api.Int) {
		if !unlike || len(left) == 0 {
			return towardNought()
		}
		// What was cut off lay below: one further from nought, and what is left is counted from there.
		return signed(true, nat.Add(quotient, one())), signed(b.Neg, nat.Sub(b.L, left))
	}
	return towardNought, downwards
}

// rootOf comes down to the root from above it, by half of guess and a / guess. No such step goes below the root, and each goes down while the guess is above it.
func rootOf(a []uint32) []uint32 {
	if nat.Bits(a) == 0 {
		return nil
	}
	guess := power((nat.Bits(a) + 1) / 2)
guesses:
	for {
		quotient, _ := nat.Div(a, guess)
		nearer := nat.Shift(nat.Add(guess, quotient), -1)
		switch nat.Cmp(nearer, guess) {
		case -1:
			guess = nearer
		default:
			break guesses
		}
	}
	return guess
}

// power is 2^n, at any n: nat's Shift ends at 4096.
func power(n int) []uint32 {
	out := make([]uint32, n/limbBits+1)
	out[n/limbBits] = 1 << (n % limbBits)
	return out
}
