package nat

import (
	"math"
	"math/big"
	"slices"
	"testing"
)

const top = math.MaxUint32

// bigOf reads limbs without any call of the package.
func bigOf(a []uint32) *big.Int {
	n := new(big.Int)
	for i := len(a) - 1; i >= 0; i-- {
		n.Lsh(n, 32)
		n.Or(n, big.NewInt(int64(a[i])))
	}
	return n
}

// bigAt is 2^bits and what is added to it.
func bigAt(bits uint, more int64) *big.Int {
	n := new(big.Int).Lsh(big.NewInt(1), bits)
	return n.Add(n, big.NewInt(more))
}

func limbsOf(n *big.Int) []uint32 {
	var out []uint32
	low := new(big.Int)
	for rest := new(big.Int).Set(n); rest.Sign() > 0; rest.Rsh(rest, 32) {
		out = append(out, uint32(low.And(rest, big.NewInt(top)).Uint64()))
	}
	return out
}

// same holds an answer against a number; limbs of 0 at its end are a fault.
func same(t *testing.T, what string, got []uint32, want *big.Int) {
	t.Helper()
	if !slices.Equal(got, limbsOf(want)) {
		t.Errorf("%s: %v, want %v (%s)", what, got, limbsOf(want), want)
	}
}

// edges are numbers at which limbs end, and such with limbs of 0 at their end.
func edges() [][]uint32 {
	return [][]uint32{
		nil, {}, {0}, {0, 0, 0},
		{1}, {1, 0}, {2}, {7}, {10}, {top}, {top - 1}, {1 << 31}, {1<<31 - 1}, {top, 0, 0},
		{0, 1}, {1, 1}, {0, 1, 0}, {top, top}, {0, top}, {top, 1}, {top - 1, top},
		{top, 1<<31 - 1}, {0, 1 << 31}, {1, 1 << 31}, {0, 1 << 31, 0},
		{0, 0, 1}, {top, top, top}, {0, 0, 1 << 31}, {top, 0, 1 << 31}, {0, top, 1 << 31, 0},
		{0, 0, 0, 1}, {3, 0, 1 << 31}, {1, 0, 1 << 29}, {0, 0, 1<<31 - 1, 1 << 31}, {1, 0, 1 << 31},
		{0, top - 1, 1 << 31}, {top, 1 << 31}, {3, 0, 0, 1 << 31}, {0, 0, 0, 0, 1, 0, 0},
	}
}

// samples are the edges and lists that a fixed rule makes, some of limbs at their ends alone.
func samples() [][]uint32 {
	out := edges()
	state := uint64(88172645463325252)
	next := func() uint32 {
		state ^= state << 13
		state ^= state >> 7
		state ^= state << 17
		return uint32(state >> 16)
	}
	ends := [...]uint32{0, 1, 1<<31 - 1, 1 << 31, top - 1, top}
	for i := range 72 {
		a := make([]uint32, 1+next()%9)
		for j := range a {
			a[j] = next()
			if i%2 == 0 {
				a[j] = ends[a[j]%6]
			}
		}
		out = append(out, a)
	}
	long := make([]uint32, 64)
	for j := range long {
		long[j] = next()
	}
	return append(out, long)
}

func TestNorm(t *testing.T) {
	for _, a := range samples() {
		same(t, "Norm", Norm(a), bigOf(a))
	}
	if got := Norm([]uint32{0, 5, 0, 0}); !slices.Equal(got, []uint32{0, 5}) {
		t.Errorf("Norm keeps limbs of 0 ahead of others: %v", got)
	}
}

func TestCmp(t *testing.T) {
	for _, a := range samples() {
		for _, b := range samples() {
			if got, want := Cmp(a, b), bigOf(a).Cmp(bigOf(b)); got != want {
				t.Errorf("Cmp(%v, %v): %d, want %d", a, b, got, want)
			}
		}
	}
}

func TestAddSubMul(t *testing.T) {
	for _, a := range samples() {
		for _, b := range samples() {
			x, y := bigOf(a), bigOf(b)
			same(t, "Add", Add(a, b), new(big.Int).Add(x, y))
			same(t, "Mul", Mul(a, b), new(big.Int).Mul(x, y))
			less := new(big.Int).Sub(x, y)
			if less.Sign() < 0 {
				less.SetInt64(0)
			}
			same(t, "Sub", Sub(a, b), less)
		}
	}
}

func TestBits(t *testing.T) {
	for _, a := range samples() {
		if got, want := Bits(a), bigOf(a).BitLen(); got != want {
			t.Errorf("Bits(%v): %d, want %d", a, got, want)
		}
	}
	for n := range 200 {
		if got := Bits(limbsOf(bigAt(uint(n), 0))); got != n+1 {
			t.Errorf("Bits of 2^%d: %d", n, got)
		}
		if got := Bits(limbsOf(bigAt(uint(n), -1))); got != n {
			t.Errorf("Bits of 2^%d - 1: %d", n, got)
		}
	}
}

// shifted counts n as the chapter does.
func shifted(a *big.Int, n int) *big.Int {
	switch {
	case n > 4096:
		n = 4096
	case n < -4096:
		n = -4096
	}
	if n < 0 {
		return new(big.Int).Rsh(a, uint(-n))
	}
	return new(big.Int).Lsh(a, uint(n))
}

func TestShift(t *testing.T) {
	counts := []int{0, 1, 5, 31, 32, 33, 63, 64, 65, 100, 288, 2047, 2048, 4095, 4096, 4097, 5000, math.MaxInt32, math.MaxInt}
	for _, a := range samples() {
		for _, n := range counts {
			same(t, "Shift up", Shift(a, n), shifted(bigOf(a), n))
			same(t, "Shift down", Shift(a, -n), shifted(bigOf(a), -n))
		}
		same(t, "Shift by the lowest int", Shift(a, math.MinInt), shifted(bigOf(a), math.MinInt))
	}
}

func TestShiftCountEnds(t *testing.T) {
	one := []uint32{1}
	for _, n := range []int{4096, 4097, 8192, math.MaxInt} {
		same(t, "Shift of 1 upwards", Shift(one, n), bigAt(4096, 0))
	}
	// Long enough that a shift by -4096 leaves something.
	long := limbsOf(bigAt(5000, 0))
	for _, n := range []int{-4096, -4097, -5000, -8192, math.MinInt + 1, math.MinInt} {
		same(t, "Shift of 2^5000 downwards", Shift(long, n), bigAt(904, 0))
	}
	same(t, "Shift of 2^5000 by -4095", Shift(long, -4095), bigAt(905, 0))
	same(t, "Shift of 1 by 4095", Shift(one, 4095), bigAt(4095, 0))
}

func TestSmall(t *testing.T) {
	cases := []struct {
		a    []uint32
		want int
		ok   bool
	}{
		{nil, 0, true},
		{[]uint32{}, 0, true},
		{[]uint32{0, 0, 0, 0}, 0, true},
		{[]uint32{1}, 1, true},
		{[]uint32{top}, 1<<32 - 1, true},
		{[]uint32{0, 1}, 1 << 32, true},
		{[]uint32{top, 1<<31 - 1}, math.MaxInt64, true},
		{[]uint32{top, 1<<31 - 1, 0, 0}, math.MaxInt64, true},
		{[]uint32{top - 1, 1<<31 - 1}, math.MaxInt64 - 1, true},
		{[]uint32{0, 1 << 31}, 0, false},
		{[]uint32{0, 1 << 31, 0}, 0, false},
		{[]uint32{1, 1 << 31}, 0, false},
		{[]uint32{top, top}, 0, false},
		{[]uint32{0, 0, 1}, 0, false},
		{[]uint32{5, 0, 1, 0}, 0, false},
	}
	for _, c := range cases {
		if got, ok := Small(c.a); got != c.want || ok != c.ok {
			t.Errorf("Small(%v): %d, %t, want %d, %t", c.a, got, ok, c.want, c.ok)
		}
	}
	for _, a := range samples() {
		got, ok := Small(a)
		n := bigOf(a)
		if ok != n.IsInt64() || ok && int64(got) != n.Int64() || !ok && got != 0 {
			t.Errorf("Small(%v): %d, %t", a, got, ok)
		}
	}
}
