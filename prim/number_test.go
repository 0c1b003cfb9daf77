package prim

import (
	"math"
	"math/big"
	"testing"

	"pavane/api"
)

func TestReckoned(t *testing.T) {
	cases := []struct{ p, a, b, want int64 }{
		{api.PAdd, 1, 2, 3}, {api.PAdd, -1, 1, 0}, {api.PAdd, 0, 0, 0}, {api.PAdd, -3, -4, -7}, {api.PAdd, top, 1, top + 1},
		{api.PSub, 1, 2, -1}, {api.PSub, 5, 5, 0}, {api.PSub, -3, -4, 1}, {api.PSub, 0, 7, -7}, {api.PSub, top + 1, 1, top},
		{api.PMul, 3, 4, 12}, {api.PMul, -3, 4, -12}, {api.PMul, -3, -4, 12}, {api.PMul, 0, -4, 0}, {api.PMul, -4, 0, 0},
		{api.PQuo, 7, 2, 3}, {api.PQuo, -7, 2, -3}, {api.PQuo, 7, -2, -3}, {api.PQuo, -7, -2, 3}, {api.PQuo, 1, 2, 0}, {api.PQuo, -1, 2, 0}, {api.PQuo, 0, -5, 0}, {api.PQuo, 6, -3, -2},
		{api.PRem, 7, 2, 1}, {api.PRem, -7, 2, -1}, {api.PRem, 7, -2, 1}, {api.PRem, -7, -2, -1}, {api.PRem, 6, -3, 0}, {api.PRem, -6, 3, 0}, {api.PRem, 1, 5, 1}, {api.PRem, -1, 5, -1}, {api.PRem, 0, -5, 0},
		{api.PMod, 7, 2, 1}, {api.PMod, -7, 2, 1}, {api.PMod, 7, -2, -1}, {api.PMod, -7, -2, -1}, {api.PMod, 6, -3, 0}, {api.PMod, -6, 3, 0}, {api.PMod, 1, 5, 1}, {api.PMod, -1, 5, 4}, {api.PMod, 1, -5, -4}, {api.PMod, -1, -5, -1}, {api.PMod, 0, -5, 0},
	}
	for _, c := range cases {
		check(t, int(c.p), of(c.want), of(c.a), of(c.b))
	}
}

func TestCompared(t *testing.T) {
	cases := []struct {
		a, b     api.Datum
		eq, less bool
	}{
		{of(1), of(1), true, false}, {of(0), of(0), true, false}, {of(-5), of(-5), true, false},
		{of(1), of(2), false, true}, {of(2), of(1), false, false}, {of(-1), of(1), false, true}, {of(1), of(-1), false, false},
		{of(-2), of(-1), false, true}, {of(-1), of(-2), false, false}, {of(-1), of(0), false, true}, {of(0), of(-1), false, false},
		{of(top), of(top + 1), false, true}, {power(2048, -1), power(2048, -1), true, false}, {power(2048, -2), power(2048, -1), false, true},
		{negative(power(2048, -1)), power(2048, -1), false, true}, {negative(power(2048, -1)), negative(power(2048, -2)), false, true},
		{num(true), num(false, 0), true, false}, {num(true, 0), of(0), true, false}, {num(true, 3, 0), of(-3), true, false}, {num(true, 0), of(1), false, true},
		{power(3000, 0), power(3000, 0), true, false}, {power(3000, 0), power(3000, 1), false, true}, {negative(power(5000, 0)), power(3000, 0), false, true},
	}
	for _, c := range cases {
		check(t, api.PEq, truth(c.eq), c.a, c.b)
		check(t, api.PLess, truth(c.less), c.a, c.b)
	}
}

func TestByNought(t *testing.T) {
	for _, p := range []int{api.PQuo, api.PRem, api.PMod} {
		for _, a := range []api.Datum{of(0), of(1), of(-1), power(2048, -1), power(3000, 0), num(true), num(false, 0)} {
			for _, b := range []api.Datum{of(0), num(true), num(false, 0), num(true, 0, 0, 0)} {
				checkWrong(t, p, api.ErrZero, a, b)
			}
		}
	}
	for _, p := range []int{api.PAdd, api.PSub} {
		check(t, p, of(5), of(5), of(0))
	}
	check(t, api.PMul, of(0), of(5), of(0))
	check(t, api.PEq, truth(true), of(0), of(0))
}

// What is just not too long, and what is.
func TestLongNumbers(t *testing.T) {
	most, one := power(2048, -1), of(1)
	least := negative(most)
	check(t, api.PAdd, most, power(2048, -2), one)
	checkWrong(t, api.PAdd, api.ErrLong, most, one)
	checkWrong(t, api.PAdd, api.ErrLong, one, most)
	checkWrong(t, api.PAdd, api.ErrLong, most, most)
	checkWrong(t, api.PAdd, api.ErrLong, least, of(-1))
	check(t, api.PAdd, of(0), most, least)
	check(t, api.PAdd, power(2048, -2), power(2047, -1), power(2047, -1))
	checkWrong(t, api.PAdd, api.ErrLong, power(2047, 0), power(2047, 0))

	check(t, api.PSub, least, negative(power(2048, -2)), one)
	checkWrong(t, api.PSub, api.ErrLong, least, one)
	checkWrong(t, api.PSub, api.ErrLong, most, of(-1))
	checkWrong(t, api.PSub, api.ErrLong, of(-1), most)
	check(t, api.PSub, negative(most), of(0), most)
	check(t, api.PSub, of(0), most, most)

	check(t, api.PMul, power(2047, 0), power(1023, 0), power(1024, 0))
	checkWrong(t, api.PMul, api.ErrLong, power(1024, 0), power(1024, 0))
	checkWrong(t, api.PMul, api.ErrLong, power(1024, 0), negative(power(1024, 0)))
	check(t, api.PMul, ofBig(new(big.Int).Mul(bigOf(power(1024, -1)), bigOf(power(1024, 1)))), power(1024, -1), power(1024, 1))
	checkWrong(t, api.PMul, api.ErrLong, power(1024, 1), power(1024, 1))
	check(t, api.PMul, least, most, of(-1))
	checkWrong(t, api.PMul, api.ErrLong, most, of(2))
	check(t, api.PMul, of(0), most, of(0))
	checkWrong(t, api.PMul, api.ErrLong, most, most)

	check(t, api.PQuo, most, most, one)
	check(t, api.PQuo, least, most, of(-1))
	check(t, api.PQuo, one, most, most)
	check(t, api.PRem, power(2047, -1), most, power(2047, 0))
	check(t, api.PRem, negative(power(2047, -1)), least, power(2047, 0))
	check(t, api.PMod, of(1), least, power(2047, 0))
	check(t, api.PMod, power(2048, -2), of(-1), most)
	check(t, api.PMod, of(-1), most, negative(power(2047, 0)))
}

// Numbers that are not Good count as the ones that they are; what comes of them may be too long.
func TestReckonedAsTheyAre(t *testing.T) {
	zeros := num(false, append(append([]uint32{}, power(2048, -1).I.L...), 0, 0, 0)...)
	check(t, api.PAdd, power(2048, -1), zeros, num(true, 0, 0))
	check(t, api.PMul, power(2048, -1), zeros, num(false, 1, 0))
	check(t, api.PAdd, of(0), num(true), num(true, 0))
	check(t, api.PSub, of(-5), num(true, 0), num(false, 5, 0, 0))
	check(t, api.PQuo, of(-3), num(true, 7, 0), num(false, 2, 0))
	check(t, api.PMod, of(1), num(true, 7, 0), num(false, 2, 0))

	long := power(4000, 0)
	for _, p := range []int{api.PAdd, api.PSub, api.PQuo} {
		checkWrong(t, p, api.ErrLong, long, of(1))
	}
	checkWrong(t, api.PMul, api.ErrLong, of(-1), long)
	check(t, api.PMul, of(0), long, of(0))
	check(t, api.PSub, of(-5), long, power(4000, 5))
	check(t, api.PAdd, of(5), negative(long), power(4000, 5))
	check(t, api.PQuo, power(2000, 0), long, power(2000, 0))
	check(t, api.PQuo, power(2047, 0), long, power(1953, 0))
	checkWrong(t, api.PQuo, api.ErrLong, long, power(1952, 0))
	check(t, api.PRem, of(0), long, power(3999, 0))
	check(t, api.PRem, of(7), power(4000, 7), power(3999, 0))
	check(t, api.PMod, of(7), power(4000, 7), power(3999, 0))
	checkWrong(t, api.PRem, api.ErrLong, power(3000, 0), long)
	checkWrong(t, api.PMod, api.ErrLong, of(-1), long)
	check(t, api.PRem, of(-1), of(-1), long)
}

// ends are numbers at which limbs end, and those that a fixed rule makes, of both signs.
func ends() []api.Datum {
	var out []api.Datum
	for _, n := range []uint{1, 2, 31, 32, 33, 63, 64, 65, 96, 1000, 1023, 1024, 1025, 1984, 2015, 2016, 2047, 2048, 2049, 2080} {
		for _, more := range []int64{-1, 0, 1} {
			out = append(out, power(n, more))
		}
	}
	state := uint64(88172645463325252)
	for i := range 20 {
		limbs := make([]uint32, 1+i*5)
		for j := range limbs {
			state ^= state << 13
			state ^= state >> 7
			state ^= state << 17
			limbs[j] = uint32(state >> 16)
		}
		out = append(out, num(false, limbs...))
	}
	for _, d := range out {
		out = append(out, negative(d))
	}
	return append(out, of(0), of(3), of(-3), of(10), of(math.MaxInt64), of(math.MinInt64))
}

// plainReckoned is what p makes of two numbers, nil if it divides by nought.
func plainReckoned(p int, a, b *big.Int) *big.Int {
	n := new(big.Int)
	switch p {
	case api.PAdd:
		return n.Add(a, b)
	case api.PSub:
		return n.Sub(a, b)
	case api.PMul:
		return n.Mul(a, b)
	}
	if b.Sign() == 0 {
		return nil
	}
	switch p {
	case api.PQuo:
		return n.Quo(a, b)
	case api.PRem:
		return n.Rem(a, b)
	}
	// The library's Mod is never below nought.
	if n.Mod(a, b); n.Sign() != 0 && b.Sign() < 0 {
		n.Add(n, b)
	}
	return n
}

func TestReckonedSweep(t *testing.T) {
	for _, a := range ends() {
		for _, b := range ends() {
			x, y := bigOf(a), bigOf(b)
			for _, p := range []int{api.PAdd, api.PSub, api.PMul, api.PQuo, api.PRem, api.PMod} {
				switch n := plainReckoned(p, x, y); {
				case n == nil:
					checkWrong(t, p, api.ErrZero, a, b)
				case n.BitLen() > 32*mostLimbs:
					checkWrong(t, p, api.ErrLong, a, b)
				default:
					check(t, p, ofBig(n), a, b)
				}
			}
			check(t, api.PEq, truth(x.Cmp(y) == 0), a, b)
			check(t, api.PLess, truth(x.Cmp(y) < 0), a, b)
		}
	}
}

// What the divisions tell fits together.
func TestDivisionsFit(t *testing.T) {
	for a := int64(-12); a <= 12; a++ {
		for b := int64(-5); b <= 5; b++ {
			if b == 0 {
				continue
			}
			check(t, api.PQuo, of(a/b), of(a), of(b))
			check(t, api.PRem, of(a%b), of(a), of(b))
			check(t, api.PMod, of((a%b+b)%b), of(a), of(b))
		}
	}
}
