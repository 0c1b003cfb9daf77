package prim

import (
	"slices"
	"strings"
	"testing"

	"pavane/api"
	"pavane/datum"
	"pavane/whole"
)

// Of what is not Plain ErrArg is told, whatever is handed in.
func TestNotPlain(t *testing.T) {
	rows := [][]api.Datum{nil, {}, {of(1)}, {of(1), of(0)}, {of(1), of(2), of(3)}, {str("a"), sym("b")}, {ring(), ring()}, {{Kind: 9}}}
	for p := -3; p <= api.PVoid+3; p++ {
		if slices.Contains(plains(), p) {
			continue
		}
		for _, l := range rows {
			checkWrong(t, p, api.ErrArg, l...)
		}
	}
	for _, p := range others() {
		for _, l := range rows {
			checkWrong(t, p, api.ErrArg, l...)
		}
	}
}

// How many there are is looked at ahead of what they are.
func TestArity(t *testing.T) {
	for _, p := range plains() {
		for n := range 6 {
			for _, d := range append(kinds(), ring(), api.Datum{Kind: 6}, power(5000, 0)) {
				l := slices.Repeat([]api.Datum{d}, n)
				if got, err := Do(p, l); (err == api.ErrArity) != (n != arity(p)) || err != api.OK && !exactly(got, api.Datum{}) {
					t.Errorf("Do(%d, %d of %s): %s, %v", p, n, brief(d), brief(got), err)
				}
			}
		}
		checkWrong(t, p, api.ErrArity)
		checkWrong(t, p, api.ErrArity, make([]api.Datum, 100000)...)
	}
}

// Of several errors the first one is told: ErrArg, ErrArity, ErrType, ErrZero, ErrLong.
func TestOrderOfErrors(t *testing.T) {
	most, long := power(2048, -1), str(strings.Repeat("x", mostBytes))
	checkWrong(t, api.PCons, api.ErrArg, of(1))
	checkWrong(t, api.PProcQ, api.ErrArg, of(1), of(2))
	checkWrong(t, 0, api.ErrArg)
	for _, p := range []int{api.PQuo, api.PRem, api.PMod} {
		checkWrong(t, p, api.ErrArity, of(0))
		checkWrong(t, p, api.ErrArity, str("a"), of(0), of(0))
		checkWrong(t, p, api.ErrType, str("a"), of(0))
		checkWrong(t, p, api.ErrType, of(1), api.Datum{})
		checkWrong(t, p, api.ErrZero, power(5000, 0), of(0))
	}
	checkWrong(t, api.PAdd, api.ErrArity, most, most, most)
	checkWrong(t, api.PAdd, api.ErrType, power(5000, 0), str("a"))
	checkWrong(t, api.PAdd, api.ErrType, str("a"), power(5000, 0))
	checkWrong(t, api.PMul, api.ErrType, list(), most)
	checkWrong(t, api.PAdd, api.ErrLong, most, most)
	checkWrong(t, api.PStrApp, api.ErrArity, long, long, long)
	checkWrong(t, api.PStrApp, api.ErrType, str(strings.Repeat("x", 2*mostBytes)), sym("a"))
	checkWrong(t, api.PStrApp, api.ErrType, of(1), str(strings.Repeat("x", 2*mostBytes)))
	checkWrong(t, api.PStrApp, api.ErrLong, long, str("x"))
}

// looksFor is the Kind of which a primitive's arguments must be; -1 if it takes any.
func looksFor(p int) int {
	switch p {
	case api.PAdd, api.PSub, api.PMul, api.PQuo, api.PRem, api.PMod, api.PEq, api.PLess, api.PNumStr:
		return api.Num
	case api.PStrLen, api.PStrApp, api.PStrEq:
		return api.Str
	case api.PSymStr:
		return api.Sym
	}
	return -1
}

// An argument of every other Kind is ErrType, in either place.
func TestTypes(t *testing.T) {
	right := map[int]api.Datum{api.Num: of(1), api.Str: str("a"), api.Sym: sym("a")}
	for _, p := range plains() {
		kind := looksFor(p)
		for _, d := range append(goods(), bads()...) {
			for at := range arity(p) {
				l := slices.Repeat([]api.Datum{right[kind]}, arity(p))
				l[at] = d
				switch _, err := Do(p, l); {
				case kind == -1 && err != api.OK, kind == d.Kind && err == api.ErrType:
					t.Errorf("Do(%d, %s): %v", p, briefs(l), err)
				case kind != -1 && kind != d.Kind:
					checkWrong(t, p, api.ErrType, l...)
				}
			}
		}
	}
}

func TestAsked(t *testing.T) {
	ask := []int{api.PNullQ, api.PPairQ, api.PNumQ, api.PSymQ, api.PStrQ, api.PBoolQ, api.PNot}
	cases := []struct {
		d     api.Datum
		holds []int
	}{
		{api.Datum{}, nil}, {of(0), []int{api.PNumQ}}, {of(-1), []int{api.PNumQ}}, {power(2048, -1), []int{api.PNumQ}},
		{truth(true), []int{api.PBoolQ}}, {truth(false), []int{api.PBoolQ, api.PNot}},
		{sym("a"), []int{api.PSymQ}}, {sym("#f"), []int{api.PSymQ}}, {str(""), []int{api.PStrQ}}, {str("()"), []int{api.PStrQ}},
		{list(), []int{api.PNullQ}}, {api.Datum{Kind: api.List, Items: []api.Datum{}}, []int{api.PNullQ}},
		{list(api.Datum{}), []int{api.PPairQ}}, {list(list()), []int{api.PPairQ}}, {list(truth(false)), []int{api.PPairQ}}, {dotted(list(of(1)), of(2)), []int{api.PPairQ}},
		{num(true, 0), []int{api.PNumQ}}, {power(5000, 0), []int{api.PNumQ}}, {sym(""), []int{api.PSymQ}}, {str(strings.Repeat("x", 5000)), []int{api.PStrQ}},
		{dotted(list(), sym("a")), []int{api.PNullQ}}, {dotted(list(of(1)), list(), list()), []int{api.PPairQ}}, {ring(), []int{api.PPairQ}},
		{api.Datum{Kind: 6}, nil}, {api.Datum{Kind: -1}, nil}, {every(6), nil}, {every(api.Nothing), nil}, {every(api.Num), []int{api.PNumQ}},
		{every(api.Bool), []int{api.PBoolQ}}, {every(api.Sym), []int{api.PSymQ}}, {every(api.Str), []int{api.PStrQ}}, {every(api.List), []int{api.PPairQ}},
	}
	for _, c := range cases {
		for _, p := range ask {
			check(t, p, truth(slices.Contains(c.holds, p)), c.d)
		}
	}
}

// eq? and not are what Eq and True say.
func TestEqAndNot(t *testing.T) {
	for _, a := range append(goods(), bads()...) {
		check(t, api.PNot, truth(!True(a)), a)
		for _, b := range append(goods(), bads()...) {
			check(t, api.PEqQ, truth(Eq(a, b)), a, b)
		}
	}
	check(t, api.PEqQ, truth(true), sym("a"), sym("a"))
	check(t, api.PEqQ, truth(true), list(), list())
	check(t, api.PEqQ, truth(true), api.Datum{}, api.Datum{})
	check(t, api.PEqQ, truth(true), power(2047, 1), power(2047, 1))
	check(t, api.PEqQ, truth(false), str("a"), str("a"))
	check(t, api.PEqQ, truth(false), list(of(1)), list(of(1)))
	check(t, api.PEqQ, truth(false), api.Datum{}, list())
	check(t, api.PEqQ, truth(false), of(0), truth(false))
	check(t, api.PNot, truth(true), truth(false))
	check(t, api.PNot, truth(false), truth(true))
	check(t, api.PNot, truth(false), list())
	check(t, api.PNot, truth(false), api.Datum{})
}

// The document's examples.
func TestExamples(t *testing.T) {
	check(t, api.PMod, of(1), of(-7), of(2))
	checkWrong(t, api.PQuo, api.ErrZero, of(1), of(0))
	checkWrong(t, api.PAdd, api.ErrType, of(1), str("a"))
}

// rows are all lists of so many of l.
func rows(l []api.Datum, count int) [][]api.Datum {
	if count == 0 {
		return [][]api.Datum{nil}
	}
	var out [][]api.Datum
	for _, d := range l {
		for _, rest := range rows(l, count-1) {
			out = append(out, append([]api.Datum{d}, rest...))
		}
	}
	return out
}

// What Do tells of data that are Good is Good.
func TestWhatIsToldIsGood(t *testing.T) {
	for _, d := range goods() {
		if !datum.Good(d) {
			t.Fatalf("%s is not Good", brief(d))
		}
	}
	for _, p := range plains() {
		for _, l := range rows(goods(), arity(p)) {
			got, err := Do(p, l)
			if !datum.Good(got) || err != api.OK && !exactly(got, api.Datum{}) {
				t.Errorf("Do(%d, %s): %s, %v", p, briefs(l), brief(got), err)
			}
		}
	}
}

// What Do tells of any data has nothing that its Kind does not name; its numbers are whole's Good, and not too long.
func TestWhatIsToldOfAny(t *testing.T) {
	for _, p := range plains() {
		for _, l := range rows(append(kinds(), bads()...), arity(p)) {
			got, err := Do(p, l)
			only := api.Datum{Kind: got.Kind}
			switch got.Kind {
			case api.Num:
				only.I = got.I
			case api.Bool:
				only.B = got.B
			case api.Str:
				only.S = got.S
			}
			if !exactly(got, only) || !whole.Good(got.I) || len(got.I.L) > mostLimbs || (err == api.OK) == (got.Kind == api.Nothing) {
				t.Errorf("Do(%d, %s): %s, %v", p, briefs(l), brief(got), err)
			}
		}
	}
}
