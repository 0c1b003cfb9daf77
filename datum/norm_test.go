package datum

import (
	"testing"

	"pavane/api"
)

func TestNorm(t *testing.T) {
	a, b, c, e := sym("a"), sym("b"), sym("c"), sym("e")
	cases := []struct{ d, want api.Datum }{
		{every(api.Nothing), api.Datum{}},
		{every(api.Num), num(true, 5)},
		{every(api.Bool), truth(true)},
		{every(api.Sym), sym("s")},
		{every(api.Str), str("s")},
		{every(api.List), dotted(list(sym("i"), num(false)), sym("t"))},
		{every(-1), api.Datum{Kind: -1}},
		{every(6), api.Datum{Kind: 6}},
		{num(true, 0, 0), num(false)},
		{num(true, 0, 7, 0), num(true, 0, 7)},
		{sym(""), sym("")},
		{list(), list()},
		{list(every(api.Num), list(every(api.Str))), list(num(true, 5), list(str("s")))},
		{dotted(list(a), b), dotted(list(a), b)},
		{dotted(list(a), every(api.Num)), dotted(list(a), num(true, 5))},
		{dotted(list(a), api.Datum{}), dotted(list(a), api.Datum{})},
		{dotted(list(a), api.Datum{Kind: 8, S: "x"}), dotted(list(a), api.Datum{Kind: 8})},
		{dotted(list(a), list()), list(a)},
		{dotted(list(a), list(b, c)), list(a, b, c)},
		{dotted(list(a), dotted(list(b), c)), dotted(list(a, b), c)},
		{dotted(list(a), dotted(list(b), dotted(list(c), list(e)))), list(a, b, c, e)},
		{dotted(list(a), dotted(list(), b)), dotted(list(a), b)},
		{dotted(list(a), dotted(list(), dotted(list(), list(b)))), list(a, b)},
		{dotted(list(), b), b},
		{dotted(list(), every(api.Bool)), truth(true)},
		{dotted(list(), list()), list()},
		{dotted(list(), list(b, c)), list(b, c)},
		{dotted(list(), dotted(list(), num(true, 0))), num(false)},
		{dotted(list(), dotted(list(b), c)), dotted(list(b), c)},
		{dotted(list(a), b, c), dotted(list(a), b)},
		{dotted(list(a), list(b), list(c)), list(a, b)},
		{dotted(list(a), list(), c), list(a)},
		{dotted(list(), b, c), b},
		{dotted(list(a), dotted(list(b), c, e), e), dotted(list(a, b), c)},
		{list(dotted(list(), b), dotted(list(a), list(b))), list(b, list(a, b))},
		{dotted(list(list(a)), list(dotted(list(), c))), list(list(a), c)},
	}
	for i, x := range cases {
		if got := Norm(x.d); !exactly(got, x.want) {
			t.Errorf("case %d: Norm(%v): %v, want %v", i, x.d, got, x.want)
		}
	}
}

// What a Kind does not name is no longer there, at any depth: but for Kinds, bytes and limbs all is Good.
func TestNormIsGood(t *testing.T) {
	for _, d := range goods() {
		if got := Norm(d); !exactly(got, d) {
			t.Errorf("Norm of what is Good: %v, want %v", got, d)
		}
	}
	for kind := api.Nothing; kind <= api.List; kind++ {
		d := every(kind)
		d.Items = append(d.Items, every(api.List), dotted(list(), every(api.Sym)))
		d.Tail[0] = dotted(list(every(api.Num)), every(api.List))
		if got := Norm(d); !Good(got) {
			t.Errorf("Norm of Kind %d is not Good: %v", kind, got)
		}
	}
}

func TestNormAgain(t *testing.T) {
	for i, d := range samples() {
		once := Norm(d)
		if twice := Norm(once); !exactly(once, twice) || !Same(once, twice) {
			t.Errorf("datum %d: Norm %v, again %v", i, once, twice)
		}
	}
	for _, d := range []api.Datum{flat(mostLooked), chain(deepestLooked, sym("x")), tailChain(deepestLooked, sym("x"))} {
		if once := Norm(d); isNothing(once) || !Same(once, Norm(once)) {
			t.Errorf("Norm at the bounds is not told again: Size %d", Size(once))
		}
	}
}

func TestNormBounds(t *testing.T) {
	for i, d := range bigs() {
		if got := Norm(d); !isNothing(got) {
			t.Errorf("Norm of big datum %d: Size %d", i, Size(got))
		}
	}
	got := Norm(tailChain(deepestLooked, list(sym("x"))))
	if !isNothing(got) {
		t.Errorf("what is too deep only by its Tails: Size %d", Size(got))
	}
	got = Norm(tailChain(deepestLooked, sym("x")))
	if len(got.Items) != deepestLooked-1 || len(got.Tail) != 1 || got.Tail[0].S != "x" {
		t.Errorf("a List of many Tails: %d Items, %d Tails", len(got.Items), len(got.Tail))
	}
	// What falls away counts, too.
	got = Norm(api.Datum{Kind: api.Sym, S: "x", Items: make([]api.Datum, mostLooked-1)})
	if !exactly(got, sym("x")) {
		t.Errorf("a symbol with as many Items as are looked at: %v", got)
	}
}
