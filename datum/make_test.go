package datum

import (
	"math"
	"math/big"
	"strings"
	"testing"

	"pavane/api"
)

func TestNumber(t *testing.T) {
	for _, n := range []int{0, 1, -1, 9, -10, top, -top, top + 1, 1 << 31, math.MaxInt, math.MaxInt - 1, math.MinInt, math.MinInt + 1} {
		d := Number(n)
		value := new(big.Int)
		for i := len(d.I.L) - 1; i >= 0; i-- {
			value.Lsh(value, 32).Or(value, big.NewInt(int64(d.I.L[i])))
		}
		if d.I.Neg {
			value.Neg(value)
		}
		if !Good(d) || d.Kind != api.Num || value.Cmp(big.NewInt(int64(n))) != 0 {
			t.Errorf("Number(%d): %v", n, d)
		}
	}
}

func TestAtoms(t *testing.T) {
	for _, b := range []bool{true, false} {
		if d := Truth(b); !exactly(d, truth(b)) || !Good(d) {
			t.Errorf("Truth(%t): %v", b, d)
		}
	}
	for _, s := range []string{"", "a", "\x00\xff", "é", strings.Repeat("x", api.MaxName), strings.Repeat("x", api.MaxStr), strings.Repeat("x", api.MaxStr+1)} {
		if d := Symbol(s); !exactly(d, sym(s)) || Good(d) != (s != "" && len(s) <= api.MaxName) {
			t.Errorf("Symbol of %d bytes: %v", len(s), d)
		}
		if d := Text(s); !exactly(d, str(s)) || Good(d) != (len(s) <= api.MaxStr) {
			t.Errorf("Text of %d bytes: %v", len(s), d)
		}
	}
}

func TestItems(t *testing.T) {
	for _, d := range []api.Datum{Items(), Items(nil...), Items([]api.Datum{}...)} {
		if !exactly(d, list()) {
			t.Errorf("Items of none: %v", d)
		}
	}
	all := samples()
	if got := Items(all...); !exactly(got, list(all...)) {
		t.Errorf("Items: %v", got)
	}
	if got := Items(make([]api.Datum, 2*mostLooked)...); got.Kind != api.List || len(got.Items) != 2*mostLooked {
		t.Errorf("Items of many: %d", len(got.Items))
	}
}

// Items has no bound of its own: a list of what other calls do not look at is that list.
func TestItemsOfMany(t *testing.T) {
	for i, d := range longs() {
		if got := Items(sym("a"), d, sym("b")); !exactly(got, list(sym("a"), d, sym("b"))) {
			t.Errorf("Items with long datum %d: Size %d, Depth %d", i, Size(got), Depth(got))
		}
	}
	d := chain(deepestLooked-5, sym("x"))
	for range 10 {
		d = Items(d)
	}
	if !exactly(d, chain(deepestLooked+5, sym("x"))) || Depth(d) != 0 {
		t.Errorf("Items of Items again and again: Size %d, Depth %d", Size(d), Depth(d))
	}
}

// Lists that hold themselves, and lists that are held again and again, are soon told from others.
func TestItemsOfRings(t *testing.T) {
	for i, d := range append(endless(), ring(2000), ring(mostLooked)) {
		if got := Items(sym("a"), d, sym("b")); !isNothing(got) {
			t.Errorf("Items with endless datum %d: Size %d, Depth %d", i, Size(got), Depth(got))
		}
		if got := Items(d.Items...); !isNothing(got) {
			t.Errorf("Items of endless datum %d's: Size %d, Depth %d", i, Size(got), Depth(got))
		}
	}
}

func TestPair(t *testing.T) {
	a, b, c := sym("a"), sym("b"), sym("c")
	cases := []struct{ first, rest, want api.Datum }{
		{num(false, 1), list(num(false, 2), num(false, 3)), list(num(false, 1), num(false, 2), num(false, 3))},
		{num(false, 1), num(false, 2), dotted(list(num(false, 1)), num(false, 2))},
		{a, list(), list(a)},
		{a, api.Datum{}, dotted(list(a), api.Datum{})},
		{list(), list(), list(list())},
		{list(a), list(b), list(list(a), b)},
		{a, dotted(list(b), c), dotted(list(a, b), c)},
		{a, dotted(list(), b), dotted(list(a), b)},
		{a, dotted(list(b), list(c)), list(a, b, c)},
		{a, dotted(list(b), c, a), dotted(list(a, b), c)},
		{every(api.Num), every(api.Str), dotted(list(num(true, 5)), str("s"))},
		{dotted(list(), b), num(true, 0), dotted(list(b), num(false))},
	}
	for i, x := range cases {
		if got := Pair(x.first, x.rest); !exactly(got, x.want) {
			t.Errorf("case %d: Pair(%v, %v): %v, want %v", i, x.first, x.rest, got, x.want)
		}
	}
	for i, d := range bigs() {
		if !isNothing(Pair(d, a)) || !isNothing(Pair(a, d)) {
			t.Errorf("Pair of big datum %d is not Nothing", i)
		}
	}
	if got := Pair(flat(mostLooked-2), a); len(got.Items) != 1 || len(got.Tail) != 1 {
		t.Errorf("Pair of as many data as may be: %v", Size(got))
	}
	if !isNothing(Pair(flat(mostLooked-1), a)) || !isNothing(Pair(chain(deepestLooked, a), a)) {
		t.Errorf("Pair of one too many is not Nothing")
	}
}

func TestSplit(t *testing.T) {
	a, b, c := sym("a"), sym("b"), sym("c")
	cases := []struct{ d, first, rest api.Datum }{
		{list(a), a, list()},
		{list(a, b), a, list(b)},
		{list(a, b, c), a, list(b, c)},
		{list(list(a), b), list(a), list(b)},
		{list(list()), list(), list()},
		{dotted(list(a), b), a, b},
		{dotted(list(a, b), c), a, dotted(list(b), c)},
		{dotted(list(a), list(b)), a, list(b)},
		{dotted(list(a), list()), a, list()},
		{dotted(list(a), b, c), a, b},
		{dotted(list(a, b), b, c), a, dotted(list(b), b, c)},
		{dotted(list(a), api.Datum{}), a, api.Datum{}},
		{list(api.Datum{}), api.Datum{}, list()},
		{list(every(api.Str), every(9)), every(api.Str), list(every(9))},
		{every(api.List), sym("i"), dotted(list(num(false, 0)), sym("t"), sym("u"))},
	}
	for i, x := range cases {
		first, rest, ok := Split(x.d)
		if !ok || !exactly(first, x.first) || !exactly(rest, x.rest) {
			t.Errorf("case %d: Split(%v): %v, %v, %t", i, x.d, first, rest, ok)
		}
	}
}

func TestSplitOfNoList(t *testing.T) {
	none := []api.Datum{{}, num(false, 1), truth(true), sym("a"), str("a"), list(), dotted(list(), sym("a")), {Kind: api.List, Items: []api.Datum{}}}
	for kind := -1; kind <= 9; kind++ {
		if kind != api.List {
			none = append(none, every(kind))
		}
	}
	for _, d := range none {
		if first, rest, ok := Split(d); ok || !isNothing(first) || !isNothing(rest) {
			t.Errorf("Split(%v): %v, %v, %t", d, first, rest, ok)
		}
	}
}

// Split has no bound of its own: it tells what other calls do not look at.
func TestSplitOfMany(t *testing.T) {
	a := sym("a")
	for i, d := range longs() {
		cases := []struct{ d, first, rest api.Datum }{
			{list(d), d, list()},
			{list(d, a), d, list(a)},
			{list(a, d), a, list(d)},
			{dotted(list(a), d), a, d},
			{dotted(list(a, a), d), a, dotted(list(a), d)},
			{dotted(list(a), a, d), a, a},
		}
		for j, x := range cases {
			first, rest, ok := Split(x.d)
			if !ok || !exactly(first, x.first) || !exactly(rest, x.rest) {
				t.Errorf("long datum %d, case %d: Split tells Sizes %d, %d, %t", i, j, Size(first), Size(rest), ok)
			}
		}
		if _, _, ok := Split(d); ok != (d.Kind == api.List) {
			t.Errorf("Split of long datum %d: %t", i, ok)
		}
	}
}

func TestSplitOfRings(t *testing.T) {
	for i, d := range endless() {
		first, rest, ok := Split(list(d, sym("a")))
		if !ok || !isNothing(first) || !exactly(rest, list(sym("a"))) {
			t.Errorf("an endless first, %d: Sizes %d, %d, %t", i, Size(first), Size(rest), ok)
		}
		first, rest, ok = Split(list(sym("a"), d))
		if !ok || !exactly(first, sym("a")) || !isNothing(rest) {
			t.Errorf("an endless rest, %d: Sizes %d, %d, %t", i, Size(first), Size(rest), ok)
		}
	}
}

func TestSplitUndoesPair(t *testing.T) {
	for i, a := range samples() {
		for j, b := range samples() {
			first, rest, ok := Split(Pair(a, b))
			if !ok || !exactly(first, Norm(a)) || !exactly(rest, Norm(b)) {
				t.Errorf("Split of Pair of %d and %d: %v, %v, %t", i, j, first, rest, ok)
			}
		}
	}
}

// What Split tells of a List is Paired to it again.
func TestPairUndoesSplit(t *testing.T) {
	for i, d := range samples() {
		if first, rest, ok := Split(d); ok && !exactly(Pair(first, rest), Norm(d)) {
			t.Errorf("Pair of Split of %d: %v, want %v", i, Pair(first, rest), Norm(d))
		}
	}
}

func TestCopy(t *testing.T) {
	for i, d := range samples() {
		if got := Copy(d); !exactly(got, d) || !Same(got, d) {
			t.Errorf("Copy of datum %d: %v, want %v", i, got, d)
		}
	}
	for _, d := range []api.Datum{flat(mostLooked), chain(deepestLooked, sym("x")), tailChain(deepestLooked, sym("x"))} {
		if !exactly(Copy(d), d) {
			t.Errorf("Copy at the bounds is another datum")
		}
	}
	for i, d := range bigs() {
		if got := Copy(d); !isNothing(got) {
			t.Errorf("Copy of big datum %d: Size %d", i, Size(got))
		}
	}
}

func TestExamples(t *testing.T) {
	a, b := Pair(Number(1), Items(Number(2), Number(3))), Pair(Number(1), Number(2))
	if !exactly(a, Items(Number(1), Number(2), Number(3))) || !exactly(b, dotted(list(num(false, 1)), num(false, 2))) {
		t.Errorf("Pair: %v, %v", a, b)
	}
	if got := Size(Items(Number(1), Items(Number(2)))); got != 4 {
		t.Errorf("Size: %d", got)
	}
}
