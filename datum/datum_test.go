package datum

import (
	"math"
	"slices"
	"strings"
	"testing"

	"pavane/api"
)

const (
	top = math.MaxUint32

	// The document's numbers, not the package's: a bound that is moved must be seen.
	mostLooked    = 100000
	deepestLooked = 10000
	deepestGiven  = 1 << 16
)

// num is a number of these limbs, Good or not.
func num(neg bool, limbs ...uint32) api.Datum {
	return api.Datum{Kind: api.Num, I: api.Int{Neg: neg, L: limbs}}
}

func sym(s string) api.Datum { return api.Datum{Kind: api.Sym, S: s} }

func str(s string) api.Datum { return api.Datum{Kind: api.Str, S: s} }

func truth(b bool) api.Datum { return api.Datum{Kind: api.Bool, B: b} }

// list is a List made without any call of the package.
func list(l ...api.Datum) api.Datum { return api.Datum{Kind: api.List, Items: l} }

// dotted is the List d with these Tails.
func dotted(d api.Datum, tails ...api.Datum) api.Datum {
	d.Tail = tails
	return d
}

// chain is x in Lists one in another, deep in all.
func chain(deep int, x api.Datum) api.Datum {
	for range deep - 1 {
		x = list(x)
	}
	return x
}

// tailChain is x behind Lists that are one another's Tails, deep in all.
func tailChain(deep int, x api.Datum) api.Datum {
	for range deep - 1 {
		x = dotted(list(num(false, 1)), x)
	}
	return x
}

// flat is a List of n data in all.
func flat(n int) api.Datum {
	return list(make([]api.Datum, n-1)...)
}

// ring is a List that holds itself, wide times.
func ring(wide int) api.Datum {
	l := make([]api.Datum, wide)
	for i := range l {
		l[i] = api.Datum{Kind: api.List, Items: l}
	}
	return l[0]
}

// doubled is a List whose two Items are one List, and so on: few lists, and more data than can be gone through.
func doubled(deep int) api.Datum {
	x := list()
	for range deep {
		x = list(x, x)
	}
	return x
}

// exactly: a and b have the same in every field; nil is an empty list.
func exactly(a, b api.Datum) bool {
	return a.Kind == b.Kind && a.I.Neg == b.I.Neg && slices.Equal(a.I.L, b.I.L) && a.B == b.B && a.S == b.S &&
		slices.EqualFunc(a.Items, b.Items, exactly) && slices.EqualFunc(a.Tail, b.Tail, exactly)
}

func isNothing(d api.Datum) bool { return exactly(d, api.Datum{}) }

// every is a datum of that Kind with something in every field.
func every(kind int) api.Datum {
	return api.Datum{Kind: kind, I: api.Int{Neg: true, L: []uint32{5, 0}}, B: true, S: "s",
		Items: []api.Datum{sym("i"), num(false, 0)}, Tail: []api.Datum{sym("t"), sym("u")}}
}

// goods are data that are Good.
func goods() []api.Datum {
	return []api.Datum{
		{}, num(false), num(false, 1), num(true, 1), num(true, 0, top), truth(true), truth(false),
		sym("a"), sym(" "), sym("\x00\xff"), str(""), str("b"), str("\xff\n"),
		{Kind: api.Str, I: api.Int{L: []uint32{}}, Items: []api.Datum{}, Tail: []api.Datum{}},
		list(), {Kind: api.List, Items: []api.Datum{}, Tail: []api.Datum{}},
		list(api.Datum{}), list(num(false, 1), list(num(false, 2))), list(list(), list(list())),
		dotted(list(sym("a")), sym("b")), dotted(list(sym("a"), list(sym("b"))), str("")),
		dotted(list(api.Datum{}), api.Datum{}),
		list(dotted(list(truth(true)), num(true, 7))),
		sym(strings.Repeat("x", api.MaxName)), str(strings.Repeat("x", api.MaxStr)),
	}
}

// bads are data that are not Good, but neither too many nor too deep to be looked at.
func bads() []api.Datum {
	out := []api.Datum{
		num(true), num(false, 0), num(true, 0), num(false, 1, 0), num(true, 3, 0, 0),
		num(false, slices.Repeat([]uint32{1}, api.MaxLimbs+1)...),
		sym(""), sym(strings.Repeat("x", api.MaxName+1)), str(strings.Repeat("x", api.MaxStr+1)),
		dotted(list(), sym("t")), dotted(list(), list()), dotted(list(), list(sym("a"))),
		dotted(list(), dotted(list(), dotted(list(), num(false, 4, 0)))),
		dotted(list(sym("a")), list()), dotted(list(sym("a")), list(sym("b"), sym("c"))),
		dotted(list(sym("a")), dotted(list(sym("b")), sym("c"))),
		dotted(list(sym("a")), dotted(list(), sym("c"))),
		dotted(list(sym("a")), sym("b"), sym("c")), dotted(list(sym("a")), list(sym("b")), sym("c")),
		dotted(list(), sym("b"), list(sym("c"))),
		list(sym("a"), list(num(false, 0))), dotted(list(sym("a")), sym("")),
		{Kind: -1}, {Kind: 6}, {Kind: math.MinInt}, {Kind: math.MaxInt}, list(api.Datum{Kind: 6}),
		dotted(list(sym("a")), api.Datum{Kind: 6, Items: []api.Datum{sym("b")}}),
	}
	for kind := -1; kind <= 6; kind++ {
		out = append(out, every(kind), list(every(kind)), dotted(list(sym("a")), every(kind)))
	}
	return out
}

// longs are data that are too many or too deep to be looked at, but may be handed in.
func longs() []api.Datum {
	shared := flat(60000)
	return []api.Datum{
		flat(mostLooked + 1), flat(3 * mostLooked), list(shared, shared), dotted(shared, shared),
		chain(deepestLooked+1, sym("x")), chain(3*deepestLooked, sym("x")), tailChain(deepestLooked+1, sym("x")),
		chain(deepestGiven, sym("x")), doubled(17),
		{Kind: api.Num, Items: make([]api.Datum, mostLooked)}, {Kind: 9, Tail: make([]api.Datum, mostLooked)},
		{Kind: api.Sym, S: "x", Items: []api.Datum{chain(deepestLooked, sym("x"))}},
		{Kind: api.Sym, S: "x", Tail: []api.Datum{chain(deepestLooked, sym("x"))}},
		dotted(list(sym("a")), sym("b"), chain(deepestLooked, sym("x"))),
	}
}

// endless are data that are beyond what may be handed in.
func endless() []api.Datum {
	return []api.Datum{chain(2*mostLooked, sym("x")), ring(1), ring(2), ring(500), doubled(60)}
}

// bigs are all data that are not looked at.
func bigs() []api.Datum { return append(longs(), endless()...) }

// samples are all data that are looked at, Good or not.
func samples() []api.Datum {
	return slices.Concat(goods(), bads(), []api.Datum{flat(1000), chain(300, sym("x")), tailChain(300, sym("x"))})
}

func TestGood(t *testing.T) {
	for i, d := range goods() {
		if !Good(d) {
			t.Errorf("Good of good datum %d is false: %v", i, d)
		}
	}
	for i, d := range bads() {
		if Good(d) {
			t.Errorf("Good of bad datum %d is true: %v", i, d)
		}
	}
	for i, d := range bigs() {
		if Good(d) {
			t.Errorf("Good of big datum %d is true", i)
		}
	}
}

// Each field by itself is looked at in each Kind that does not name it.
func TestGoodFields(t *testing.T) {
	fields := map[string]api.Datum{
		"Neg":    {I: api.Int{Neg: true}},
		"L":      {I: api.Int{L: []uint32{1}}},
		"nought": {I: api.Int{L: []uint32{0}}},
		"B":      {B: true},
		"S":      {S: "s"},
		"Items":  {Items: []api.Datum{{}}},
		"Tail":   {Tail: []api.Datum{{}}},
	}
	named := map[int]string{api.Num: "L", api.Bool: "B", api.Sym: "S", api.Str: "S", api.List: "Items"}
	for kind := api.Nothing; kind <= api.List; kind++ {
		for field, d := range fields {
			d.Kind = kind
			if got := Good(d); got != (named[kind] == field) {
				t.Errorf("Good of Kind %d with %s: %t", kind, field, got)
			}
		}
	}
}

func TestGoodLimits(t *testing.T) {
	limbs := slices.Repeat([]uint32{top}, api.MaxLimbs+1)
	cases := []struct {
		what string
		d    api.Datum
		want bool
	}{
		{"most limbs", num(true, limbs[1:]...), true},
		{"a limb more", num(true, limbs...), false},
		{"longest name", sym(strings.Repeat("é", api.MaxName/2)), true},
		{"a byte more", sym(strings.Repeat("é", api.MaxName/2) + "x"), false},
		{"longest text", str(strings.Repeat("é", api.MaxStr/2)), true},
		{"a byte more", str(strings.Repeat("é", api.MaxStr/2) + "x"), false},
		{"a text as long as a name may not be", str(strings.Repeat("x", api.MaxName+1)), true},
		{"deepest", chain(api.MaxDeep, sym("x")), true},
		{"one deeper", chain(api.MaxDeep+1, sym("x")), false},
		{"deepest list", chain(api.MaxDeep, list()), true},
		{"one deeper", chain(api.MaxDeep+1, list()), false},
		{"deepest Tail", chain(api.MaxDeep-1, dotted(list(sym("x")), sym("y"))), true},
		{"one deeper", chain(api.MaxDeep, dotted(list(sym("x")), sym("y"))), false},
		{"most data", flat(api.MaxItems), true},
		{"one more", flat(api.MaxItems + 1), false},
		{"most data with a Tail", dotted(flat(api.MaxItems-1), sym("x")), true},
		{"one more", dotted(flat(api.MaxItems), sym("x")), false},
		{"most data in two lists", list(flat(api.MaxItems/2), flat(api.MaxItems/2-1)), true},
		{"one more", list(flat(api.MaxItems/2), flat(api.MaxItems/2)), false},
	}
	for _, c := range cases {
		if got := Good(c.d); got != c.want {
			t.Errorf("Good of %s: %t", c.what, got)
		}
	}
}

func TestSizeAndDepth(t *testing.T) {
	cases := []struct {
		d          api.Datum
		size, deep int
	}{
		{api.Datum{}, 1, 1}, {num(false, 1), 1, 1}, {api.Datum{Kind: 77}, 1, 1},
		{list(), 1, 1}, {list(list()), 2, 2}, {list(num(false, 1), list(num(false, 2))), 4, 3},
		{list(list(sym("a"), sym("b")), sym("c")), 5, 3},
		{dotted(list(sym("a")), sym("b")), 3, 2}, {dotted(list(sym("a")), list(sym("b"))), 4, 3},
		{dotted(list(list(list())), sym("b")), 4, 3}, {dotted(list(sym("a")), sym("b"), list(sym("c"))), 5, 3},
		{dotted(list(), sym("b")), 2, 2},
		{every(api.Num), 5, 2}, {every(-1), 5, 2}, {list(every(api.Str)), 6, 3},
		{api.Datum{Kind: api.Sym, Tail: []api.Datum{list(list())}}, 3, 3},
		{flat(mostLooked), mostLooked, 2}, {flat(mostLooked + 1), mostLooked, 0}, {flat(mostLooked + 2), mostLooked, 0},
		{chain(deepestLooked, sym("x")), deepestLooked, deepestLooked}, {chain(deepestLooked+1, sym("x")), deepestLooked + 1, 0},
		{tailChain(deepestLooked, sym("x")), 2*deepestLooked - 1, deepestLooked}, {tailChain(deepestLooked+1, sym("x")), 2*deepestLooked + 1, 0},
		{chain(65536, list()), 65536, 0}, {chain(mostLooked, list()), mostLooked, 0}, {chain(mostLooked+1, list()), mostLooked, 0},
		{ring(1), mostLooked, 0}, {ring(3), mostLooked, 0}, {doubled(60), mostLooked, 0},
		{doubled(15), 1<<16 - 1, 16}, {doubled(16), mostLooked, 0},
	}
	for i, c := range cases {
		if size, deep := Size(c.d), Depth(c.d); size != c.size || deep != c.deep {
			t.Errorf("datum %d: Size %d, Depth %d, want %d, %d", i, size, deep, c.size, c.deep)
		}
	}
}

func TestSame(t *testing.T) {
	all := samples()
	for i, a := range all {
		if !Same(a, a) || !Same(a, Copy(a)) {
			t.Errorf("Same of datum %d and itself is false: %v", i, a)
		}
		for j, b := range all {
			if exactly(a, b) && !Same(a, b) || Same(a, b) != Same(b, a) {
				t.Errorf("Same of %d and %d: %t, the other way round %t", i, j, Same(a, b), Same(b, a))
			}
		}
	}
	for i, d := range bigs() {
		if Same(d, d) || Same(d, list()) || Same(list(), d) {
			t.Errorf("Same of big datum %d is true", i)
		}
	}
	for _, d := range []api.Datum{flat(mostLooked), chain(deepestLooked, sym("x")), tailChain(deepestLooked, sym("x"))} {
		if !Same(d, Copy(d)) {
			t.Errorf("Same of data that are just not too many or too deep is false")
		}
	}
}

func TestSameNumbers(t *testing.T) {
	alike := [][]api.Datum{
		{num(false), num(true), num(false, 0), num(true, 0, 0)},
		{num(false, 5), num(false, 5, 0), num(false, 5, 0, 0)},
		{num(true, 5), num(true, 5, 0)},
		{num(false, 0, 5), num(false, 0, 5, 0)},
		{list(num(false)), list(num(true, 0))},
		{dotted(list(sym("a")), num(true, 5)), dotted(list(sym("a")), num(true, 5, 0))},
	}
	for i, group := range alike {
		for j, other := range alike {
			for _, a := range group {
				for _, b := range other {
					if Same(a, b) != (i == j) {
						t.Errorf("Same(%v, %v): %t", a, b, i != j)
					}
				}
			}
		}
	}
}

// A change of any field, at any depth, is seen.
func TestSameDiffers(t *testing.T) {
	changes := map[string]func(d *api.Datum){
		"Kind":     func(d *api.Datum) { d.Kind++ },
		"Neg":      func(d *api.Datum) { d.I.Neg = !d.I.Neg },
		"L":        func(d *api.Datum) { d.I.L = []uint32{6} },
		"B":        func(d *api.Datum) { d.B = !d.B },
		"S":        func(d *api.Datum) { d.S += "x" },
		"an item":  func(d *api.Datum) { d.Items[1] = sym("x") },
		"order":    func(d *api.Datum) { slices.Reverse(d.Items) },
		"fewer":    func(d *api.Datum) { d.Items = d.Items[:1] },
		"more":     func(d *api.Datum) { d.Items = append(d.Items, sym("x")) },
		"a Tail":   func(d *api.Datum) { d.Tail[1] = sym("x") },
		"no Tail":  func(d *api.Datum) { d.Tail = nil },
		"one Tail": func(d *api.Datum) { d.Tail = d.Tail[:1] },
	}
	for what, change := range changes {
		for kind := -1; kind <= 6; kind++ {
			a, b := every(kind), every(kind)
			change(&b)
			wraps := []func(d api.Datum) api.Datum{
				func(d api.Datum) api.Datum { return d },
				func(d api.Datum) api.Datum { return list(sym("a"), d) },
				func(d api.Datum) api.Datum { return dotted(list(sym("a")), d) },
				func(d api.Datum) api.Datum { return api.Datum{Kind: api.Str, Items: []api.Datum{list(d)}} },
			}
			for i, wrap := range wraps {
				if Same(wrap(a), wrap(b)) {
					t.Errorf("Kind %d, wrapped %d: Same does not see %s", kind, i, what)
				}
			}
		}
	}
}

func TestSameIsNotNorm(t *testing.T) {
	a, b := dotted(list(sym("a")), list(sym("b"))), list(sym("a"), sym("b"))
	if Same(a, b) || !Same(Norm(a), b) {
		t.Errorf("a List in a Tail is another datum, until Norm: %t, %t", Same(a, b), Same(Norm(a), b))
	}
}
