package whole

import (
	"math/big"
	"testing"

	"pavane/api"
)

// floored is a divided by b, cut off downwards, and what is left, by the numbers of the library.
func floored(a, b *big.Int) (*big.Int, *big.Int) {
	q, r := new(big.Int).QuoRem(a, b, new(big.Int))
	if r.Sign() != 0 && r.Sign() != b.Sign() {
		q.Sub(q, big.NewInt(1))
		r.Add(r, b)
	}
	return q, r
}

func TestQuoAndFloor(t *testing.T) {
	for _, a := range samples() {
		for _, b := range samples() {
			x, y := bigOf(a), bigOf(b)
			if y.Sign() == 0 {
				continue
			}
			q, r, err := Quo(a, b)
			wantQ, wantR := new(big.Int).QuoRem(x, y, new(big.Int))
			same(t, "Quo", q, wantQ)
			same(t, "Quo's rest", r, wantR)
			f, s, err2 := Floor(a, b)
			wantQ, wantR = floored(x, y)
			same(t, "Floor", f, wantQ)
			same(t, "Floor's rest", s, wantR)
			if err != api.OK || err2 != api.OK {
				t.Errorf("Quo and Floor of %v and %v: %v, %v", a, b, err, err2)
			}
		}
	}
}

// Every pair of signs, with something left and with nothing, and of a nearer to nought than b.
func TestDivisionsBySigns(t *testing.T) {
	cases := []struct{ a, b, quo, rem, floor, mod int }{
		{7, 2, 3, 1, 3, 1},
		{-7, 2, -3, -1, -4, 1},
		{7, -2, -3, 1, -4, -1},
		{-7, -2, 3, -1, 3, -1},
		{6, 2, 3, 0, 3, 0},
		{-6, 2, -3, 0, -3, 0},
		{6, -2, -3, 0, -3, 0},
		{-6, -2, 3, 0, 3, 0},
		{1, 3, 0, 1, 0, 1},
		{-1, 3, 0, -1, -1, 2},
		{1, -3, 0, 1, -1, -2},
		{-1, -3, 0, -1, 0, -1},
		{0, 3, 0, 0, 0, 0},
		{0, -3, 0, 0, 0, 0},
	}
	for _, c := range cases {
		q, r, _ := Quo(Of(c.a), Of(c.b))
		same(t, "Quo", q, big.NewInt(int64(c.quo)))
		same(t, "Quo's rest", r, big.NewInt(int64(c.rem)))
		f, s, _ := Floor(Of(c.a), Of(c.b))
		same(t, "Floor", f, big.NewInt(int64(c.floor)))
		same(t, "Floor's rest", s, big.NewInt(int64(c.mod)))
	}
}

// Cut off downwards a quotient of limbs may grow by a limb.
func TestFloorGrows(t *testing.T) {
	a := new(big.Int).Neg(bigAt(65, -1))
	q, r, _ := Floor(intOf(a), Of(2))
	same(t, "Floor", q, new(big.Int).Neg(bigAt(64, 0)))
	same(t, "Floor's rest", r, big.NewInt(1))
}

func TestDivisionsByNought(t *testing.T) {
	noughts := []api.Int{{}, {Neg: true}, {L: []uint32{}}, {L: []uint32{0, 0}}, {Neg: true, L: []uint32{0}}}
	for _, a := range samples() {
		for _, b := range noughts {
			q, r, err := Quo(a, b)
			if err != api.ErrZero || !isZero(q) || !isZero(r) {
				t.Errorf("Quo(%v, %v): %v, %v, %v", a, b, q, r, err)
			}
			q, r, err = Floor(a, b)
			if err != api.ErrZero || !isZero(q) || !isZero(r) {
				t.Errorf("Floor(%v, %v): %v, %v, %v", a, b, q, r, err)
			}
		}
	}
}

// isZero: a zero value, but for an empty list, which is as good as none.
func isZero(a api.Int) bool { return !a.Neg && len(a.L) == 0 }

// a is quotient times b, and what is left, of both divisions; what is left is nearer to nought than b, with a's sign of Quo, with b's of Floor.
func TestDivisionsFollow(t *testing.T) {
	for _, a := range samples() {
		for _, b := range samples() {
			if bigOf(b).Sign() == 0 {
				continue
			}
			q, r, _ := Quo(a, b)
			f, s, _ := Floor(a, b)
			if Cmp(Add(Mul(q, b), r), a) != 0 || Cmp(Add(Mul(f, b), s), a) != 0 {
				t.Errorf("%v is not quotient times %v and what is left: %v, %v; %v, %v", a, b, q, r, f, s)
			}
			if bigOf(r).CmpAbs(bigOf(b)) >= 0 || bigOf(s).CmpAbs(bigOf(b)) >= 0 {
				t.Errorf("%v and %v: too much is left: %v, %v", a, b, r, s)
			}
			if len(r.L) > 0 && r.Neg != a.Neg || len(s.L) > 0 && s.Neg != b.Neg {
				t.Errorf("%v and %v: the sign of what is left: %v, %v", a, b, r, s)
			}
		}
	}
}

func TestGcd(t *testing.T) {
	for _, a := range samples() {
		for _, b := range samples() {
			x, y := new(big.Int).Abs(bigOf(a)), new(big.Int).Abs(bigOf(b))
			same(t, "Gcd", Gcd(a, b), new(big.Int).GCD(nil, nil, x, y))
		}
	}
}

func TestGcdEdges(t *testing.T) {
	cases := []struct{ a, b, want int }{
		{0, 0, 0}, {0, 5, 5}, {5, 0, 5}, {0, -5, 5}, {-5, 0, 5},
		{12, 18, 6}, {-12, 18, 6}, {12, -18, 6}, {-12, -18, 6}, {18, 12, 6},
		{7, 7, 7}, {-7, 7, 7}, {1, 9, 1}, {9, 1, 1}, {8, 9, 1}, {3, 9, 3}, {9, 3, 3},
	}
	for _, c := range cases {
		same(t, "Gcd", Gcd(Of(c.a), Of(c.b)), big.NewInt(int64(c.want)))
	}
	for _, nought := range []api.Int{{}, {Neg: true}, {Neg: true, L: []uint32{0, 0}}} {
		for _, other := range []api.Int{{}, {Neg: true}, {L: []uint32{0}}} {
			same(t, "Gcd of two noughts", Gcd(nought, other), new(big.Int))
		}
		for _, a := range samples() {
			want := new(big.Int).Abs(bigOf(a))
			same(t, "Gcd with nought", Gcd(a, nought), want)
			same(t, "Gcd with nought", Gcd(nought, a), want)
		}
	}
}

func rooted(t *testing.T, a api.Int) {
	t.Helper()
	n := bigOf(a)
	want := new(big.Int).Sqrt(n)
	r, left, err := Root(a)
	if err != api.OK {
		t.Errorf("Root(%v): %v", a, err)
	}
	same(t, "Root", r, want)
	same(t, "Root's rest", left, new(big.Int).Sub(n, new(big.Int).Mul(want, want)))
}

func TestRoot(t *testing.T) {
	for n := range 1100 {
		rooted(t, Of(n))
	}
	for _, n := range ints() {
		if n >= 0 {
			rooted(t, Of(n))
		}
	}
	for _, a := range samples() {
		if bigOf(a).Sign() >= 0 {
			rooted(t, a)
		}
	}
}

// Squares, and the numbers beside them.
func TestRootBesideSquares(t *testing.T) {
	for _, a := range samples() {
		n := bigOf(a)
		square := new(big.Int).Mul(n, n)
		for more := int64(-1); more <= 1; more++ {
			beside := new(big.Int).Add(square, big.NewInt(more))
			if beside.Sign() >= 0 {
				rooted(t, intOf(beside))
			}
		}
		r, left, _ := Root(intOf(square))
		same(t, "Root of a square", r, new(big.Int).Abs(n))
		same(t, "Root of a square: its rest", left, new(big.Int))
	}
}

// Powers of two on either side of the ends of limbs, and far behind where nat's shifts end.
func TestRootOfPowers(t *testing.T) {
	for bits := range uint(140) {
		for more := int64(-1); more <= 1; more++ {
			rooted(t, intOf(bigAt(bits, more)))
		}
	}
	for _, bits := range []uint{4095, 4096, 8190, 8191, 8192, 8193, 8194, 8200, 9000, 16384, 20001} {
		rooted(t, intOf(bigAt(bits, -1)))
		rooted(t, intOf(bigAt(bits, 0)))
	}
}

func TestRootBelowNought(t *testing.T) {
	for _, a := range samples() {
		if bigOf(a).Sign() >= 0 {
			continue
		}
		r, left, err := Root(a)
		if err != api.ErrArg || !isZero(r) || !isZero(left) {
			t.Errorf("Root(%v): %v, %v, %v", a, r, left, err)
		}
	}
}

func TestRootOfNought(t *testing.T) {
	for _, a := range []api.Int{{}, {Neg: true}, {L: []uint32{0}}, {Neg: true, L: []uint32{0, 0}}} {
		r, left, err := Root(a)
		if err != api.OK || !isZero(r) || !isZero(left) {
			t.Errorf("Root(%v): %v, %v, %v", a, r, left, err)
		}
	}
}

func TestExamples(t *testing.T) {
	q, r, _ := Quo(Of(-7), Of(2))
	f, s, _ := Floor(Of(-7), Of(2))
	root, left, _ := Root(Of(17))
	got := []string{Text(q), Text(r), Text(f), Text(s), Text(root), Text(left)}
	want := []string{"-3", "-1", "-4", "1", "4", "1"}
	for i := range want {
		if got[i] != want[i] {
			t.Errorf("example: %v, want %v", got, want)
		}
	}
}
