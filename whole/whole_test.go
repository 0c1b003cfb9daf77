package whole

import (
	"math"
	"math/big"
	"slices"
	"testing"

	"pavane/api"
)

const top = math.MaxUint32

// bigOf reads a number, Good or not, without any call of the package.
func bigOf(a api.Int) *big.Int {
	n := new(big.Int)
	for i := len(a.L) - 1; i >= 0; i-- {
		n.Lsh(n, 32)
		n.Or(n, big.NewInt(int64(a.L[i])))
	}
	if a.Neg {
		n.Neg(n)
	}
	return n
}

// intOf is the one Good form of n.
func intOf(n *big.Int) api.Int {
	out := api.Int{Neg: n.Sign() < 0}
	low := new(big.Int)
	for rest := new(big.Int).Abs(n); rest.Sign() > 0; rest.Rsh(rest, 32) {
		out.L = append(out.L, uint32(low.And(rest, big.NewInt(top)).Uint64()))
	}
	return out
}

// bigAt is 2^bits and what is added to it.
func bigAt(bits uint, more int64) *big.Int {
	n := new(big.Int).Lsh(big.NewInt(1), bits)
	return n.Add(n, big.NewInt(more))
}

// same holds an answer against a number's Good form.
func same(t *testing.T, what string, got api.Int, want *big.Int) {
	t.Helper()
	good := intOf(want)
	if got.Neg != good.Neg || !slices.Equal(got.L, good.L) {
		t.Errorf("%s: %v, want %v (%s)", what, got, good, want)
	}
}

// edges are numbers at which limbs end, with both signs; some have limbs of 0 at their end, some are noughts with a sign.
func edges() []api.Int {
	lists := [][]uint32{
		nil, {}, {0}, {0, 0, 0},
		{1}, {1, 0}, {2}, {3}, {7}, {10}, {top}, {top - 1}, {1 << 31}, {top, 0, 0},
		{0, 1}, {1, 1}, {0, 1, 0}, {top, top}, {top, 1<<31 - 1}, {0, 1 << 31}, {1, 1 << 31}, {0, 1 << 31, 0},
		{0, 0, 1}, {top, top, top}, {0, 0, 1 << 31, 0, 0}, {3, 0, 0, 1 << 31},
	}
	return bothSigns(lists)
}

// samples are the edges and numbers that a fixed rule makes.
func samples() []api.Int {
	state := uint64(88172645463325252)
	next := func() uint32 {
		state ^= state << 13
		state ^= state >> 7
		state ^= state << 17
		return uint32(state >> 16)
	}
	var lists [][]uint32
	for range 24 {
		l := make([]uint32, 1+next()%7)
		for j := range l {
			l[j] = next() >> (next() % 32)
		}
		lists = append(lists, l)
	}
	long := make([]uint32, api.MaxLimbs)
	for j := range long {
		long[j] = next()
	}
	return append(edges(), bothSigns(append(lists, long))...)
}

func bothSigns(lists [][]uint32) []api.Int {
	var out []api.Int
	for _, l := range lists {
		out = append(out, api.Int{L: l}, api.Int{Neg: true, L: l})
	}
	return out
}

// ints are Go's ints at their ends and at those of limbs.
func ints() []int {
	out := []int{math.MinInt, math.MinInt + 1, math.MaxInt - 1, math.MaxInt}
	for _, n := range []int{0, 1, 2, 9, 10, top - 1, top, top + 1, 1 << 31, 1 << 62, 1<<62 - 1} {
		out = append(out, n, -n)
	}
	return out
}

func TestGood(t *testing.T) {
	cases := []struct {
		a    api.Int
		want bool
	}{
		{api.Int{}, true},
		{api.Int{L: []uint32{}}, true},
		{api.Int{Neg: true}, false},
		{api.Int{Neg: true, L: []uint32{}}, false},
		{api.Int{L: []uint32{0}}, false},
		{api.Int{Neg: true, L: []uint32{0}}, false},
		{api.Int{L: []uint32{0, 0}}, false},
		{api.Int{L: []uint32{1}}, true},
		{api.Int{Neg: true, L: []uint32{1}}, true},
		{api.Int{L: []uint32{1, 0}}, false},
		{api.Int{Neg: true, L: []uint32{1, 0}}, false},
		{api.Int{L: []uint32{0, 1}}, true},
		{api.Int{Neg: true, L: []uint32{0, top}}, true},
	}
	for _, c := range cases {
		if got := Good(c.a); got != c.want {
			t.Errorf("Good(%v): %t", c.a, got)
		}
	}
	for _, a := range samples() {
		good := intOf(bigOf(a))
		if got, want := Good(a), a.Neg == good.Neg && slices.Equal(a.L, good.L); got != want {
			t.Errorf("Good(%v): %t", a, got)
		}
	}
}

func TestNorm(t *testing.T) {
	for _, a := range samples() {
		same(t, "Norm", Norm(a), bigOf(a))
	}
	got := Norm(api.Int{Neg: true, L: []uint32{0, 5, 0, 0}})
	if !got.Neg || !slices.Equal(got.L, []uint32{0, 5}) {
		t.Errorf("Norm keeps the sign and limbs of 0 ahead of others: %v", got)
	}
	if got := Norm(api.Int{Neg: true, L: []uint32{0, 0}}); got.Neg || len(got.L) != 0 {
		t.Errorf("Norm of nought with a sign: %v", got)
	}
}

func TestOf(t *testing.T) {
	for _, n := range ints() {
		same(t, "Of", Of(n), big.NewInt(int64(n)))
	}
}

func TestSmall(t *testing.T) {
	for _, n := range ints() {
		if got, ok := Small(Of(n)); got != n || !ok {
			t.Errorf("Small of %d: %d, %t", n, got, ok)
		}
	}
	for _, a := range samples() {
		n := bigOf(a)
		got, ok := Small(a)
		if ok != n.IsInt64() || ok && int64(got) != n.Int64() || !ok && got != 0 {
			t.Errorf("Small(%v): %d, %t", a, got, ok)
		}
	}
}

// The lowest int lies one further from nought than the highest.
func TestSmallEnds(t *testing.T) {
	cases := []struct {
		a    api.Int
		want int
		ok   bool
	}{
		{api.Int{L: []uint32{top, 1<<31 - 1}}, math.MaxInt64, true},
		{api.Int{L: []uint32{0, 1 << 31}}, 0, false},
		{api.Int{Neg: true, L: []uint32{top, 1<<31 - 1}}, math.MinInt64 + 1, true},
		{api.Int{Neg: true, L: []uint32{0, 1 << 31}}, math.MinInt64, true},
		{api.Int{Neg: true, L: []uint32{0, 1 << 31, 0, 0}}, math.MinInt64, true},
		{api.Int{Neg: true, L: []uint32{1, 1 << 31}}, 0, false},
		{api.Int{Neg: true, L: []uint32{0, 0, 1}}, 0, false},
		{api.Int{Neg: true, L: []uint32{0, 0}}, 0, true},
		{api.Int{Neg: true}, 0, true},
		{api.Int{Neg: true, L: []uint32{1, 0, 0}}, -1, true},
	}
	for _, c := range cases {
		if got, ok := Small(c.a); got != c.want || ok != c.ok {
			t.Errorf("Small(%v): %d, %t, want %d, %t", c.a, got, ok, c.want, c.ok)
		}
	}
}

func TestCmp(t *testing.T) {
	for _, a := range samples() {
		for _, b := range samples() {
			if got, want := Cmp(a, b), bigOf(a).Cmp(bigOf(b)); got != want {
				t.Errorf("Cmp(%v, %v): %d, want %d", a, b, got, want)
			}
		}
	}
}

func TestNeg(t *testing.T) {
	for _, a := range samples() {
		same(t, "Neg", Neg(a), new(big.Int).Neg(bigOf(a)))
		same(t, "Neg of Neg", Neg(Neg(a)), bigOf(a))
	}
}

func TestAddSubMul(t *testing.T) {
	for _, a := range samples() {
		for _, b := range samples() {
			x, y := bigOf(a), bigOf(b)
			same(t, "Add", Add(a, b), new(big.Int).Add(x, y))
			same(t, "Sub", Sub(a, b), new(big.Int).Sub(x, y))
			same(t, "Mul", Mul(a, b), new(big.Int).Mul(x, y))
		}
	}
}

// Nothing wraps where Go's ints would.
func TestIntsDoNotWrap(t *testing.T) {
	for _, a := range ints() {
		for _, b := range ints() {
			x, y := big.NewInt(int64(a)), big.NewInt(int64(b))
			same(t, "Add", Add(Of(a), Of(b)), new(big.Int).Add(x, y))
			same(t, "Sub", Sub(Of(a), Of(b)), new(big.Int).Sub(x, y))
			same(t, "Mul", Mul(Of(a), Of(b)), new(big.Int).Mul(x, y))
		}
		same(t, "Neg", Neg(Of(a)), new(big.Int).Neg(big.NewInt(int64(a))))
	}
}
