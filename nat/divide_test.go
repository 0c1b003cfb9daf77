package nat

import (
	"math/big"
	"testing"
)

func TestDivSmall(t *testing.T) {
	divisors := []uint32{1, 2, 3, 7, 10, 1 << 16, 1<<31 - 1, 1 << 31, 1<<31 + 1, top - 1, top}
	for _, a := range samples() {
		for _, d := range divisors {
			q, r := DivSmall(a, d)
			wantQ, wantR := new(big.Int).QuoRem(bigOf(a), big.NewInt(int64(d)), new(big.Int))
			same(t, "DivSmall", q, wantQ)
			if uint64(r) != wantR.Uint64() {
				t.Errorf("DivSmall(%v, %d) leaves %d, want %s", a, d, r, wantR)
			}
		}
	}
}

func TestDiv(t *testing.T) {
	for _, a := range samples() {
		for _, b := range samples() {
			if bigOf(b).Sign() == 0 {
				continue
			}
			q, r := Div(a, b)
			wantQ, wantR := new(big.Int).QuoRem(bigOf(a), bigOf(b), new(big.Int))
			same(t, "Div", q, wantQ)
			same(t, "Div's rest", r, wantR)
		}
	}
}

func TestDivByNought(t *testing.T) {
	for _, a := range samples() {
		if q, r := DivSmall(a, 0); len(q) != 0 || r != 0 {
			t.Errorf("DivSmall(%v, 0): %v, %d", a, q, r)
		}
		for _, nought := range [][]uint32{nil, {}, {0}, {0, 0, 0}} {
			if q, r := Div(a, nought); len(q) != 0 || len(r) != 0 {
				t.Errorf("Div(%v, %v): %v, %v", a, nought, q, r)
			}
		}
	}
}

// The guess of a digit is too great by one, by two, or capped in these.
func TestDivGuesses(t *testing.T) {
	cases := []struct{ a, b []uint32 }{
		{[]uint32{0, 0, 1 << 31, 1<<31 - 1}, []uint32{1, 0, 1 << 31}},
		{[]uint32{3, 0, 1 << 31}, []uint32{1, 0, 1 << 29}},
		{[]uint32{0, 0, 0, 1 << 31}, []uint32{top, top, 1 << 31}},
		{[]uint32{0, 0, top - 1}, []uint32{top, top}},
		{[]uint32{0, 0, 1<<31 - 1}, []uint32{top, 1 << 31}},
		{[]uint32{0, 0, 0, 1 << 31}, []uint32{1, 0, 1 << 31}},
		{[]uint32{top, top - 1, top, 1<<31 - 1}, []uint32{top, top, 1 << 31}},
		{[]uint32{0, top - 1, 1 << 31}, []uint32{top, 1 << 31}},
	}
	for _, c := range cases {
		q, r := Div(c.a, c.b)
		wantQ, wantR := new(big.Int).QuoRem(bigOf(c.a), bigOf(c.b), new(big.Int))
		same(t, "Div", q, wantQ)
		same(t, "Div's rest", r, wantR)
	}
}

// A dividend that is made of its quotient and rest gives them back.
func TestDivUndoesMul(t *testing.T) {
	for _, b := range samples() {
		if bigOf(b).Sign() == 0 {
			continue
		}
		below := new(big.Int).Sub(bigOf(b), big.NewInt(1))
		for _, q := range samples() {
			n := new(big.Int).Mul(bigOf(q), bigOf(b))
			got, left := Div(limbsOf(n), b)
			same(t, "Div of a product", got, bigOf(q))
			same(t, "Div of a product: its rest", left, new(big.Int))
			got, left = Div(limbsOf(n.Add(n, below)), b)
			same(t, "Div ahead of the next product", got, bigOf(q))
			same(t, "Div ahead of the next product: its rest", left, below)
		}
	}
}

// a is what Div tells times b, and what is left, which is below b: by the package's own calls.
func TestDivFollows(t *testing.T) {
	for _, a := range samples() {
		for _, b := range samples() {
			if Bits(b) == 0 {
				continue
			}
			q, r := Div(a, b)
			if Cmp(Add(Mul(q, b), r), a) != 0 || Cmp(r, b) >= 0 {
				t.Errorf("Div(%v, %v): %v, %v", a, b, q, r)
			}
		}
	}
}

func TestDivExample(t *testing.T) {
	a, ok := Parse("100000000000000000000", 10)
	if !ok {
		t.Fatal("Parse of 10^20")
	}
	q, r := Div(a, []uint32{7})
	if Text(q, 10) != "14285714285714285714" || Text(r, 10) != "2" {
		t.Errorf("Div of 10^20 by 7: %s, %s", Text(q, 10), Text(r, 10))
	}
}
