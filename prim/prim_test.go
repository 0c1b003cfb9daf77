package prim

import (
	"math"
	"strings"
	"testing"

	"pavane/api"
	"pavane/core"
	"pavane/expand"
)

// The tables that the tests lean on are the document's.
func TestTables(t *testing.T) {
	if len(does) != api.PVoid || len(takes) != api.PVoid || len(strings.Fields(numbered)) != api.PVoid {
		t.Fatalf("%d signs, %d numbers, %d names", len(does), len(takes), len(strings.Fields(numbered)))
	}
	for p := 1; p <= api.PVoid; p++ {
		if arity(p) != core.Arity(p) {
			t.Errorf("arity of %d: %d, core's %d", p, arity(p), core.Arity(p))
		}
	}
}

func TestPlainAndPure(t *testing.T) {
	for i, sign := range does {
		plain, pure := sign == '*' || sign == '+', sign == '*' || sign == 'p'
		if Plain(i+1) != plain || Pure(i+1) != pure {
			t.Errorf("%d: Plain %t, Pure %t, want %t, %t", i+1, Plain(i+1), Pure(i+1), plain, pure)
		}
	}
	for _, p := range others() {
		if Plain(p) || Pure(p) {
			t.Errorf("%d: Plain %t, Pure %t", p, Plain(p), Pure(p))
		}
	}
	plain := []int{api.PAdd, api.PSub, api.PMul, api.PQuo, api.PRem, api.PMod, api.PEq, api.PLess,
		api.PNullQ, api.PPairQ, api.PNumQ, api.PSymQ, api.PStrQ, api.PBoolQ, api.PEqQ, api.PNot, api.PStrLen, api.PStrEq}
	for _, p := range plain {
		if !Plain(p) || !Pure(p) {
			t.Errorf("%d: Plain %t, Pure %t", p, Plain(p), Pure(p))
		}
	}
	for _, p := range []int{api.PStrApp, api.PSymStr, api.PNumStr} {
		if !Plain(p) || Pure(p) {
			t.Errorf("%d, which makes something new: Plain %t, Pure %t", p, Plain(p), Pure(p))
		}
	}
	for _, p := range []int{api.PProcQ, api.PVoid} {
		if Plain(p) || !Pure(p) {
			t.Errorf("%d: Plain %t, Pure %t", p, Plain(p), Pure(p))
		}
	}
	for _, p := range []int{api.PCons, api.PCar, api.PCdr, api.PSetCar, api.PSetCdr, api.PWrite, api.PRead, api.PRaise, api.PCallCC, api.PApply, api.PBox, api.PUnbox, api.PSetBox} {
		if Plain(p) || Pure(p) {
			t.Errorf("%d: Plain %t, Pure %t", p, Plain(p), Pure(p))
		}
	}
}

func TestName(t *testing.T) {
	for i, name := range strings.Fields(numbered) {
		p, _, ok := expand.Prim(Name(i + 1))
		if Name(i+1) != name || p != i+1 || !ok {
			t.Errorf("Name(%d): %q, want %q; Prim of it is %d, %t", i+1, Name(i+1), name, p, ok)
		}
	}
	for _, p := range others() {
		if Name(p) != "" {
			t.Errorf("Name(%d): %q", p, Name(p))
		}
	}
	if Name(api.PAdd) != "+" || Name(api.PEq) != "=" || Name(api.PEqQ) != "eq?" || Name(api.PRead) != "read-byte" || Name(api.PVoid) != "void" {
		t.Errorf("%s %s %s %s %s", Name(api.PAdd), Name(api.PEq), Name(api.PEqQ), Name(api.PRead), Name(api.PVoid))
	}
}

func TestTrue(t *testing.T) {
	for _, d := range append(goods(), bads()...) {
		want := d.Kind != api.Bool || d.B
		if True(d) != want {
			t.Errorf("True(%s): %t", brief(d), !want)
		}
	}
	for _, d := range []api.Datum{truth(false), {Kind: api.Bool, S: "#t"}, {Kind: api.Bool, Items: []api.Datum{{}}}} {
		if True(d) {
			t.Errorf("True of #f is true: %s", brief(d))
		}
	}
	for _, d := range []api.Datum{truth(true), {}, of(0), sym("#f"), sym("f"), str(""), str("#f"), list(), list(truth(false)), {Kind: 6}, {Kind: -2}} {
		if !True(d) {
			t.Errorf("True(%s): false", brief(d))
		}
	}
}

// alikes are rows of data: Eq holds of two in one row, and of no others.
func alikes() [][]api.Datum {
	return [][]api.Datum{
		{{}, {Kind: api.Nothing, S: "x"}},
		{of(0), of(0), num(true), num(false, 0), num(true, 0, 0)},
		{of(1), num(false, 1, 0)}, {of(-1), num(true, 1, 0, 0)},
		{of(math.MaxInt64), of(math.MaxInt64)}, {of(-math.MaxInt64)}, {of(math.MinInt64)},
		{power(2047, 5), power(2047, 5)}, {negative(power(2047, 5))}, {power(2047, 6)}, {power(2015, 5)},
		{truth(true), truth(true)}, {truth(false), truth(false)},
		{sym("a"), sym("a")}, {sym("A")}, {sym("ab")}, {sym("")}, {sym("a\x00")}, {sym("1")}, {sym("#t")}, {sym("()")},
		{list(), api.Datum{Kind: api.List, Items: []api.Datum{}, Tail: []api.Datum{}}},
	}
}

func TestEq(t *testing.T) {
	for i, row := range alikes() {
		for j, other := range alikes() {
			for _, a := range row {
				for _, b := range other {
					if Eq(a, b) != (i == j) {
						t.Errorf("Eq(%s, %s): %t", brief(a), brief(b), i != j)
					}
				}
			}
		}
	}
}

// Of these Eq never holds, not of themselves either.
func TestNeverEq(t *testing.T) {
	never := []api.Datum{
		str(""), str("a"), str("1"), str(strings.Repeat("x", mostBytes)), list(of(1)), list(list()), list(api.Datum{}), list(truth(true), sym("a")),
		dotted(list(sym("a")), sym("b")), ring(), every(api.List), every(api.Str), {Kind: 6}, {Kind: -1}, {Kind: math.MaxInt}, every(6),
	}
	for _, a := range never {
		for _, b := range append(append(goods(), bads()...), never...) {
			if Eq(a, b) || Eq(b, a) {
				t.Errorf("Eq(%s, %s): %t, the other way round %t", brief(a), brief(b), Eq(a, b), Eq(b, a))
			}
		}
	}
}

// Eq of numbers, truths and symbols is as datum's Same has them, which looks at all that they have.
func TestEqLooksAtAll(t *testing.T) {
	for _, d := range []api.Datum{of(5), truth(true), truth(false), sym("a")} {
		changes := map[string]func(d *api.Datum){
			"B":     func(d *api.Datum) { d.B = !d.B },
			"S":     func(d *api.Datum) { d.S += "x" },
			"I":     func(d *api.Datum) { d.I = api.Int{L: []uint32{9}} },
			"Items": func(d *api.Datum) { d.Items = []api.Datum{{}} },
			"Tail":  func(d *api.Datum) { d.Tail = []api.Datum{{}} },
		}
		for what, change := range changes {
			x, y := d, d
			change(&x)
			if Eq(x, d) || Eq(d, x) {
				t.Errorf("Eq of %s and it with another %s", brief(d), what)
			}
			if change(&y); !Eq(x, y) {
				t.Errorf("Eq of %s twice: false", brief(x))
			}
		}
	}
}
