package nat

import (
	"slices"
	"strings"
)

const (
	digits   = "0123456789abcdefghijklmnopqrstuvwxyz"
	lowBase  = 2
	highBase = len(digits)

	// mostDigits is how long a text may be that is read.
	mostDigits = 1000
)

// Text: a's digits, of base 2 to 36; "" of another base.
func Text(a []uint32, base int) string {
	if !isBase(base) {
		return ""
	}
	piece, width := pieceOf(base)
	var out []byte
	for rest := Norm(a); len(rest) > 0; rest = trim(rest) {
		low := divInto(rest, rest, piece)
		for range width {
			out = append(out, digits[low%uint32(base)])
			low /= uint32(base)
		}
	}
	slices.Reverse(out)
	text := strings.TrimLeft(string(out), "0")
	if text == "" {
		return "0"
	}
	return text
}

// Parse: the number of 1 to 1000 digits of base 2 to 36; false of any other text or base.
func Parse(s string, base int) ([]uint32, bool) {
	if !isBase(base) || len(s) == 0 || len(s) > mostDigits {
		return nil, false
	}
	var out []uint32
	for i := range len(s) {
		digit := digitOf(s[i])
		if digit >= base {
			return nil, false
		}
		out = putDigit(out, uint64(base), uint64(digit))
	}
	return out, true
}

func isBase(base int) bool {
	return lowBase <= base && base <= highBase
}

// pieceOf tells the greatest power of base that is a limb, and which: so many digits come of one division.
func pieceOf(base int) (uint32, int) {
	power, width := uint64(base), 1
	for power*uint64(base) <= limbMask {
		power *= uint64(base)
		width++
	}
	return uint32(power), width
}

// digitOf is highBase, which no base has, of a byte that is no digit.
func digitOf(c byte) int {
	switch {
	case '0' <= c && c <= '9':
		return int(c - '0')
	case 'a' <= c && c <= 'z':
		return int(c-'a') + 10
	case 'A' <= c && c <= 'Z':
		return int(c-'A') + 10
	}
	return highBase
}

// putDigit makes a times base and digit of a, in a's own memory: it is called with a list that Parse made.
func putDigit(a []uint32, base, digit uint64) []uint32 {
	carry := digit
	for i, x := range a {
		carry += uint64(x) * base
		a[i] = uint32(carry)
		carry >>= limbBits
	}
	if carry > 0 {
		a = append(a, uint32(carry))
	}
	return a
}
