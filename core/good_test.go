package core

import (
	"math"
	"slices"
	"strings"
	"testing"

	"pavane/api"
	"pavane/expand"
)

// numbered are the names of the primitives in the order of the document's section 'Words', and takes how many arguments each takes.
const (
	numbered = "+ - * quotient remainder modulo = < cons car cdr set-car! set-cdr! null? pair? integer? symbol? string? boolean? procedure? eq? not string-length string-append string=? symbol->string number->string write display newline read-byte raise call/cc apply box unbox set-box! void"
	takes    = "2 2 2 2 2 2 2 2 2 1 1 2 2 1 1 1 1 1 1 1 2 1 1 2 2 1 1 1 1 0 0 1 1 2 1 1 2 0"
)

func TestArity(t *testing.T) {
	counts := strings.Fields(takes)
	for i, name := range strings.Fields(numbered) {
		want := numberOf(counts[i])
		p, n, ok := expand.Prim(name)
		if got := Arity(i + 1); got != want || p != i+1 || n != want || !ok {
			t.Errorf("Arity(%d) is %d, want %d; Prim(%s) is %d, %d, %t", i+1, got, want, name, p, n, ok)
		}
	}
	if len(counts) != api.PVoid || Arity(api.PSetBox) != 2 || Arity(api.PVoid) != 0 {
		t.Errorf("%d primitives, Arity of PSetBox %d, of PVoid %d", len(counts), Arity(api.PSetBox), Arity(api.PVoid))
	}
	for _, p := range []int{0, -1, 39, 40, 1000000, math.MinInt, math.MaxInt} {
		if got := Arity(p); got != -1 {
			t.Errorf("Arity(%d): %d", p, got)
		}
	}
}

func TestGood(t *testing.T) {
	for i, e := range goods() {
		if !Good(e) {
			t.Errorf("Good of good expression %d is false: %s", i, mostly(e))
		}
	}
	for i, e := range slices.Concat(bads(), longs(), endless()) {
		if Good(e) {
			t.Errorf("Good of bad expression %d is true: %s", i, mostly(e))
		}
	}
}

// Each Kind has as many Kids as it names, a call at least one; each primitive as many as its Arity.
func TestGoodKids(t *testing.T) {
	kids := slices.Repeat(exs("v9"), 6)
	named := map[int]int{api.ExConst: 0, api.ExVar: 0, api.ExSet: 1, api.ExIf: 3, api.ExLambda: 1, api.ExLet: 2, api.ExSeq: 2}
	for kind := -1; kind <= 11; kind++ {
		for n := range kids {
			e := api.Expr{Kind: kind, Kids: kids[:n]}
			if kind == api.ExVar || kind == api.ExSet || kind == api.ExLet {
				e.V = 1
			}
			most, ok := named[kind]
			want := ok && n == most || kind == api.ExCall && n > 0
			if got := Good(e); got != want {
				t.Errorf("Good of Kind %d with %d Kids: %t", kind, n, got)
			}
		}
	}
	for i, takes := range strings.Fields(takes) {
		for n := range kids {
			if got := Good(api.Expr{Kind: api.ExPrim, P: i + 1, Kids: kids[:n]}); got != (n == numberOf(takes)) {
				t.Errorf("Good of primitive %d of %d Kids: %t", i+1, n, got)
			}
		}
	}
	for _, p := range []int{math.MinInt, -1, 0, 39, math.MaxInt} {
		for n := range kids {
			if Good(api.Expr{Kind: api.ExPrim, P: p, Kids: kids[:n]}) {
				t.Errorf("Good of primitive %d of %d Kids", p, n)
			}
		}
	}
}

// Each field by itself is looked at in each Kind that does not name it, deep inside too.
func TestGoodFields(t *testing.T) {
	changes := map[string]func(e *api.Expr){
		"D Kind":   func(e *api.Expr) { e.D.Kind = api.Bool },
		"D wrong":  func(e *api.Expr) { e.D.Kind = 6 },
		"D Neg":    func(e *api.Expr) { e.D.I.Neg = true },
		"D L":      func(e *api.Expr) { e.D.I.L = []uint32{0} },
		"D B":      func(e *api.Expr) { e.D.B = true },
		"D S":      func(e *api.Expr) { e.D.S = "s" },
		"D Items":  func(e *api.Expr) { e.D.Items = []api.Datum{{}} },
		"D Tail":   func(e *api.Expr) { e.D.Tail = []api.Datum{{}} },
		"V":        func(e *api.Expr) { e.V = 8 },
		"Vars":     func(e *api.Expr) { e.Vars = []int{8} },
		"Vars 0":   func(e *api.Expr) { e.Vars = []int{0} },
		"Rest":     func(e *api.Expr) { e.Rest = true },
		"P":        func(e *api.Expr) { e.P = api.PEq },
		"P wrong":  func(e *api.Expr) { e.P = 39 },
		"P 1 less": func(e *api.Expr) { e.P = -1 },
	}
	names := map[string]string{"(quote ())": "D Kind,D Items,", "v1": "V,", "(set! v1 v2)": "V,", "(lambda (v1) v2)": "Vars,Rest,", "(%1 v1 v2)": "P,", "(let v1 v2 v3)": "V,", "(if v1 v2 v3)": "", "(v1)": "", "(begin v1 v2)": ""}
	for s, named := range names {
		for what, change := range changes {
			e := ex(s)
			change(&e)
			want := strings.Contains(named, what+",") && what != ""
			if got := Good(e); got != want {
				t.Errorf("Good of %s with %s: %t", s, what, got)
			}
			if got := Good(api.Expr{Kind: api.ExSeq, Kids: []api.Expr{ex("v9"), {Kind: api.ExLambda, Kids: []api.Expr{e}}}}); got != want {
				t.Errorf("Good of %s with %s, deep inside: %t", s, what, got)
			}
		}
	}
}

func TestGoodLimits(t *testing.T) {
	manyVars := func(n int) api.Expr {
		e := ex("(lambda () v1)")
		for i := range n {
			e.Vars = append(e.Vars, n-i)
		}
		return e
	}
	cases := []struct {
		what string
		e    api.Expr
		want bool
	}{
		{"most expressions", row(mostItems), true},
		{"one more", row(mostItems + 1), false},
		{"most, one in another", chain(mostItems, ex("v1")), true},
		{"one more", chain(mostItems+1, ex("v1")), false},
		{"most, in two rows", api.Expr{Kind: api.ExSeq, Kids: []api.Expr{row(mostItems / 2), row(mostItems/2 - 1)}}, true},
		{"one more", api.Expr{Kind: api.ExSeq, Kids: []api.Expr{row(mostItems / 2), row(mostItems / 2)}}, false},
		{"all variables that there are", manyVars(greatest), true},
		{"one more", manyVars(greatest + 1), false},
		{"the longest constant", api.Expr{Kind: api.ExConst, D: api.Datum{Kind: api.Str, S: strings.Repeat("x", api.MaxStr)}}, true},
		{"one longer", api.Expr{Kind: api.ExConst, D: api.Datum{Kind: api.Str, S: strings.Repeat("x", api.MaxStr+1)}}, false},
	}
	for _, c := range cases {
		if got := Good(c.e); got != c.want {
			t.Errorf("Good of %s: %t", c.what, got)
		}
	}
}

func TestSize(t *testing.T) {
	sizes := map[string]int{"v1": 1, "(quote (1 2 3))": 1, "()": 1, "?": 1, "(set! v1 v2)": 2, "(lambda (v1 v2 v3) v1)": 2, "(begin)": 1,
		"(begin v1 (if v1 v2 (v3 v4)))": 8, "(let v1 v2 v3 v4 v5)": 5, "(%1 v1 (%1 v1 v1))": 5}
	for s, want := range sizes {
		if got := Size(ex(s)); got != want {
			t.Errorf("Size of %s: %d, want %d", s, got, want)
		}
	}
	for i, e := range samples() {
		if got := Size(e); got != nodes(e) {
			t.Errorf("Size of expression %d: %d, want %d", i, got, nodes(e))
		}
	}
	for kind := -1; kind <= 11; kind++ {
		if got := Size(every(kind)); got != 4 {
			t.Errorf("Size of Kind %d with four expressions in all: %d", kind, got)
		}
	}
}

// What is just not too long or too deep is looked at; what is one more is not.
func TestLookedAt(t *testing.T) {
	cases := []struct {
		e    api.Expr
		size int
	}{
		{row(mostLooked), mostLooked}, {row(mostLooked + 1), 0},
		{chain(deepestLooked, ex("v3")), deepestLooked}, {chain(deepestLooked+1, ex("v3")), 0},
		{chain(deepestLooked-1, ex("(v3 v3)")), deepestLooked + 1}, {chain(deepestLooked, ex("(v3 v3)")), 0},
		{api.Expr{Kind: 10, Kids: row(mostLooked).Kids}, mostLooked}, {api.Expr{Kind: api.ExVar, V: 3, Kids: row(mostLooked + 1).Kids}, 0},
		{doubled(15), 1<<16 - 1}, {doubled(16), 0},
	}
	for i, c := range cases {
		if got := Size(c.e); got != c.size {
			t.Errorf("Size of %d: %d, want %d", i, got, c.size)
		}
		looked := c.size > 0
		if got := slices.Equal(Free(c.e), []int{3}); got != looked {
			t.Errorf("Free of %d: %v", i, Free(c.e))
		}
		binder := c.e
		binder.Kind, binder.Vars = api.ExLambda, []int{5, 4}
		if got := slices.Equal(Bound(binder), []int{5, 4}); got != looked {
			t.Errorf("Bound of %d: %v", i, Bound(binder))
		}
		if got := Write(c.e) != ""; got != looked {
			t.Errorf("Write of %d: %s", i, mostly(c.e))
		}
		if Same(c.e, c.e) != looked || Alike(c.e, c.e) != looked {
			t.Errorf("%d: Same %t, Alike %t", i, Same(c.e, c.e), Alike(c.e, c.e))
		}
		if got, next := Fresh(binder, 7); (next == 9) != looked || !exactly(got, binder) == !looked {
			t.Errorf("Fresh of %d: next is %d", i, next)
		}
		if got := Swap(c.e, 3, ex("v8")); exactly(got, c.e) == looked {
			t.Errorf("Swap of %d", i)
		}
	}
}

// What is too long or too deep is not Good, not Closed, not Same nor Alike to any, and tells nothing.
func TestNotLookedAt(t *testing.T) {
	for i, e := range slices.Concat(longs(), endless()) {
		if Good(e) || Closed(e) || Size(e) != 0 || Free(e) != nil || Bound(e) != nil || Write(e) != "" {
			t.Errorf("big expression %d is looked at", i)
		}
		for _, x := range append(exs("v3"), e) {
			if Same(e, x) || Same(x, e) || Alike(e, x) || Alike(x, e) {
				t.Errorf("big expression %d is the Same as, or Alike to another", i)
			}
		}
		if _, err := Boxes(e); err != api.ErrArg {
			t.Errorf("Boxes of big expression %d: %v", i, err)
		}
	}
	for i, e := range longs() {
		if got, next := Fresh(e, 5); !exactly(got, e) || next != 5 {
			t.Errorf("Fresh of long expression %d is another, or next is %d", i, next)
		}
		if !exactly(Swap(e, 3, ex("v4")), e) {
			t.Errorf("Swap of long expression %d is another", i)
		}
	}
}

// Whatever is handed in, every call ends.
func TestEndless(t *testing.T) {
	for i, e := range endless() {
		if _, next := Fresh(e, 5); next != 5 {
			t.Errorf("Fresh of endless expression %d: next is %d", i, next)
		}
		if got := Swap(e, 3, e); got.Kind != e.Kind || len(got.Kids) != len(e.Kids) {
			t.Errorf("Swap of endless expression %d is another", i)
		}
		path := make([]int, 1000)
		got, ok := At(e, path)
		_, found := At(chain(1001, ex("v3")), path)
		if !found || ok != (i != 4) || ok && got.Kind != api.ExCall && got.Kind != api.ExPrim {
			t.Errorf("At of endless expression %d: %t", i, ok)
		}
		if Put(e, path[:1], ex("v8")); e.Kids[0].V == 8 {
			t.Errorf("Put changes endless expression %d", i)
		}
		if got, ok = Put(e, path[:20], e); !ok || got.Kind != e.Kind {
			t.Errorf("Put of endless expression %d: %t", i, ok)
		}
		got, ok = Put(ex("(v1 v2)"), []int{1}, e)
		if x, _ := At(got, []int{1}); !ok || x.Kind != e.Kind {
			t.Errorf("Put of %d into another: %t", i, ok)
		}
		endlessDatum := ring(1)
		endlessDatum.D.Items = make([]api.Datum, 1)
		endlessDatum.D.Items[0] = api.Datum{Kind: api.List, Items: endlessDatum.D.Items}
		endlessDatum.Kids = nil
		if got, ok = Put(e, []int{0}, endlessDatum); !ok || got.Kids[0].Kind != api.ExCall {
			t.Errorf("Put of an endless constant into %d: %t", i, ok)
		}
	}
}
