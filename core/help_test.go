package core

import (
	"math"
	"slices"
	"strconv"
	"strings"
	"testing"

	"pavane/api"
	"pavane/reader"
)

const (
	// The document's numbers, not the package's: a bound that is moved must be seen.
	mostLooked    = 100000
	deepestLooked = 10000
	deepestGiven  = 1 << 16
	mostItems     = 5000
	greatest      = 1000000
)

// ex is the expression that is written so; ? is one of another Kind.
func ex(s string) api.Expr {
	d, _, err := reader.Read(s, 0)
	if err != api.OK {
		panic(s + " is no datum")
	}
	return exOf(d)
}

// exs are the expressions of the lines of s.
func exs(s string) []api.Expr {
	var out []api.Expr
	for _, line := range lines(s) {
		out = append(out, ex(line))
	}
	return out
}

// lines are the lines of s that are not empty.
func lines(s string) []string {
	var out []string
	for line := range strings.Lines(s) {
		if line = strings.TrimSpace(line); line != "" {
			out = append(out, line)
		}
	}
	return out
}

func exOf(d api.Datum) api.Expr {
	if d.Kind == api.Sym && d.S == "?" {
		return api.Expr{Kind: 10}
	}
	if d.Kind == api.Sym {
		return api.Expr{Kind: api.ExVar, V: varOf(d)}
	}
	l := d.Items
	if len(l) > 0 && l[0].Kind == api.Sym {
		switch head := l[0].S; head {
		case "quote":
			return api.Expr{Kind: api.ExConst, D: l[1]}
		case "set!":
			return api.Expr{Kind: api.ExSet, V: varOf(l[1]), Kids: exsOf(l[2:])}
		case "if":
			return api.Expr{Kind: api.ExIf, Kids: exsOf(l[1:])}
		case "let":
			return api.Expr{Kind: api.ExLet, V: varOf(l[1]), Kids: exsOf(l[2:])}
		case "begin":
			return api.Expr{Kind: api.ExSeq, Kids: exsOf(l[1:])}
		case "lambda":
			return lambdaOf(l[1], l[2:])
		default:
			if p, ok := strings.CutPrefix(head, "%"); ok {
				return api.Expr{Kind: api.ExPrim, P: numberOf(p), Kids: exsOf(l[1:])}
			}
		}
	}
	return api.Expr{Kind: api.ExCall, Kids: exsOf(l)}
}

func lambdaOf(formals api.Datum, bodies []api.Datum) api.Expr {
	e := api.Expr{Kind: api.ExLambda, Kids: exsOf(bodies)}
	if formals.Kind == api.Sym {
		formals = api.Datum{Kind: api.List, Tail: []api.Datum{formals}}
	}
	for _, v := range slices.Concat(formals.Items, formals.Tail) {
		e.Vars = append(e.Vars, varOf(v))
	}
	e.Rest = len(formals.Tail) > 0
	return e
}

func exsOf(l []api.Datum) []api.Expr {
	var out []api.Expr
	for _, d := range l {
		out = append(out, exOf(d))
	}
	return out
}

func varOf(d api.Datum) int { return numberOf(strings.TrimPrefix(d.S, "v")) }

func numberOf(s string) int {
	n, err := strconv.Atoi(s)
	if err != nil {
		panic(err)
	}
	return n
}

// chain is x in expressions one in another, deep in all.
func chain(deep int, x api.Expr) api.Expr {
	for range deep - 1 {
		x = api.Expr{Kind: api.ExPrim, P: api.PNot, Kids: []api.Expr{x}}
	}
	return x
}

// row is a call of n expressions in all.
func row(n int) api.Expr {
	e := api.Expr{Kind: api.ExCall, Kids: make([]api.Expr, n-1)}
	for i := range e.Kids {
		e.Kids[i] = ex("v3")
	}
	return e
}

// ring is an expression that holds itself, wide times.
func ring(wide int) api.Expr {
	l := make([]api.Expr, wide)
	for i := range l {
		l[i] = api.Expr{Kind: api.ExCall, Kids: l}
	}
	return l[0]
}

// doubled is an expression whose two Kids are one, and so on: few lists, and more expressions than can be gone through.
func doubled(deep int) api.Expr {
	x := ex("v3")
	for range deep {
		x = api.Expr{Kind: api.ExSeq, Kids: []api.Expr{x, x}}
	}
	return x
}

// every is an expression of that Kind with something in every field.
func every(kind int) api.Expr {
	return api.Expr{Kind: kind, D: ex("(quote (a (99999999999) . \"b\"))").D, V: 4, Vars: []int{5, 6}, Rest: true, P: api.PAdd,
		Kids: exs("v4 \n (lambda (v7) (quote (12345678901 c)))")}
}

// deepDatum is a datum that is deeper than package datum looks, but may be handed in.
func deepDatum() api.Datum {
	d := api.Datum{Kind: api.Num, I: api.Int{L: []uint32{5}}}
	for range 2 * deepestLooked {
		d = api.Datum{Kind: api.List, Items: []api.Datum{d}}
	}
	return d
}

// goodTexts are texts of expressions that are Good.
const goodTexts = `
	v1
	v1000000
	(quote 1)
	(quote ())
	(quote (a "b" #t (c . 12345678901234567890)))
	(set! v3 v3)
	(set! v1000000 (quote #f))
	(if v1 v2 v3)
	(lambda () v1)
	(lambda (v2) v1)
	(lambda (v2 v1) v1)
	(lambda v1 v1)
	(lambda (v1 . v2) v2)
	(lambda (v3 v1000000 . v1) v2)
	(v1)
	((quote 5) v1 v1)
	(v1 v2 v3 v4 v5)
	(%38)
	(%14 v1)
	(%1 v1 v1)
	(let v1 v1 v1)
	(let v1000000 (quote 1) (set! v1000000 v2))
	(begin v1 v1)
	(begin (lambda (v1) v1) (set! v1 v1))
	(lambda (v1) (let v2 (%35 v1) (%37 v2 (%36 v2))))
	((lambda (v4 v2) (if v4 (v2 v4) (lambda v3 (%9 v3 v2)))) (let v1 (quote 3) v1) v9)
`

// badTexts are texts of expressions that are not Good, for one reason each.
const badTexts = `
	v0
	v-1
	v1000001
	(set! v0 v1)
	(set! v-1 v1)
	(set! v1000001 v1)
	(set! v1)
	(set! v1 v1 v1)
	(set! v1 v0)
	(if)
	(if v1 v2)
	(if v1 v2 v3 v4)
	(lambda (v1))
	(lambda (v1) v1 v1)
	(lambda (v0) v1)
	(lambda (v1 v-1) v1)
	(lambda (v1000001) v1)
	(lambda v0 v1)
	(lambda (v2 . v1000001) v1)
	(lambda (v1 v1) v1)
	(lambda (v1 v2 . v1) v1)
	()
	(let v1)
	(let v1 v1)
	(let v1 v1 v1 v1)
	(let v0 v1 v1)
	(let v-1 v1 v1)
	(let v1000001 v1 v1)
	(begin)
	(begin v1)
	(begin v1 v1 v1)
	(lambda (v1) (lambda (v1) v1))
	(lambda v1 (lambda v1 v1))
	(lambda (v1) (let v1 v1 v1))
	(let v1 (let v1 v2 v2) v2)
	(let v1 v2 (let v1 v2 v2))
	(let v1 v2 (lambda (v1) v2))
	(let v1 (lambda (v1) v2) v2)
	(begin (lambda (v1) v1) (lambda (v1) v1))
	(begin (let v1 v2 v1) (let v1 v2 v1))
	(begin (lambda (v2 v1) v1) (let v1 v2 v1))
	(%0)
	(%0 v1)
	(%39)
	(%39 v1 v1)
	(%-1)
	(%-1 v1)
	?
	(lambda (v1) ?)
	(v1 v2 (begin v1 (if v1 v2)))
	(quote ||)
	(quote (a ||))
`

func goods() []api.Expr {
	return append(exs(goodTexts),
		api.Expr{Kind: api.ExConst},
		api.Expr{Kind: api.ExVar, V: 1, D: api.Datum{I: api.Int{L: []uint32{}}, Items: []api.Datum{}, Tail: []api.Datum{}}, Vars: []int{}, Kids: []api.Expr{}},
		chain(300, ex("v1")), row(300))
}

// bads are expressions that are not Good, but neither too many nor too deep to be looked at.
func bads() []api.Expr {
	var out []api.Expr
	for _, line := range lines(badTexts) {
		out = append(out, ex(strings.ReplaceAll(line, "||", "|a|")))
		if strings.Contains(line, "||") {
			out[len(out)-1] = nameless(out[len(out)-1])
		}
	}
	for _, kind := range []int{math.MinInt, -1, 0, 10, math.MaxInt} {
		out = append(out, api.Expr{Kind: kind}, api.Expr{Kind: kind, V: 1, Kids: exs("v1 \n (lambda (v2) v2)")})
	}
	for kind := -1; kind <= 10; kind++ {
		out = append(out, every(kind), api.Expr{Kind: api.ExSeq, Kids: []api.Expr{every(kind), every(kind)}})
	}
	return append(out,
		api.Expr{Kind: api.ExLambda, Rest: true, Kids: exs("v1")},
		api.Expr{Kind: api.ExVar, V: math.MinInt}, api.Expr{Kind: api.ExVar, V: math.MaxInt},
		api.Expr{Kind: api.ExLambda, Vars: []int{math.MaxInt, math.MinInt}, Kids: []api.Expr{{Kind: api.ExVar, V: math.MaxInt}}},
		api.Expr{Kind: api.ExPrim, P: math.MinInt}, api.Expr{Kind: api.ExPrim, P: math.MaxInt},
		api.Expr{Kind: api.ExConst, D: deepDatum()},
		chain(6000, ex("v1")), row(6000))
}

// nameless is a constant in which symbols have no bytes.
func nameless(e api.Expr) api.Expr {
	if e.D.Kind == api.Sym {
		e.D.S = ""
	}
	for i := range e.D.Items {
		e.D.Items[i].S = ""
	}
	return e
}

// longs are expressions that are too many or too deep to be looked at, but may be handed in.
func longs() []api.Expr {
	shared := row(60000)
	return []api.Expr{
		row(mostLooked + 1), {Kind: api.ExSeq, Kids: []api.Expr{shared, shared}},
		chain(deepestLooked+1, ex("v3")), chain(deepestGiven, ex("(lambda (v1) v1)").Kids[0]), doubled(17),
		{Kind: api.ExVar, V: 3, Kids: make([]api.Expr, mostLooked)}, {Kind: 10, Kids: []api.Expr{chain(deepestLooked, ex("v3"))}},
	}
}

// endless are expressions that are beyond what may be handed in.
func endless() []api.Expr {
	return []api.Expr{chain(2*mostLooked, ex("v3")), ring(1), ring(2), ring(500), doubled(60)}
}

// samples are all expressions that are looked at, Good or not.
func samples() []api.Expr { return slices.Concat(goods(), bads()) }

// exactly: a and b have the same in every field; nil is an empty list.
func exactly(a, b api.Expr) bool {
	return a.Kind == b.Kind && exactlyDatum(a.D, b.D) && a.V == b.V && slices.Equal(a.Vars, b.Vars) && a.Rest == b.Rest &&
		a.P == b.P && slices.EqualFunc(a.Kids, b.Kids, exactly)
}

func exactlyDatum(a, b api.Datum) bool {
	return a.Kind == b.Kind && a.I.Neg == b.I.Neg && slices.Equal(a.I.L, b.I.L) && a.B == b.B && a.S == b.S &&
		slices.EqualFunc(a.Items, b.Items, exactlyDatum) && slices.EqualFunc(a.Tail, b.Tail, exactlyDatum)
}

func isZeroExpr(e api.Expr) bool { return exactly(e, api.Expr{}) }

// nodes is how many expressions there are in e, counted without any call of the package.
func nodes(e api.Expr) int {
	n := 1
	for _, kid := range e.Kids {
		n += nodes(kid)
	}
	return n
}

// mostly is an expression's text for a message, which is not endless.
func mostly(e api.Expr) string {
	s := Write(e)
	return s[:min(len(s), 200)]
}

// TestHelp: the tests' own reading of expressions is what Write undoes.
func TestHelp(t *testing.T) {
	for _, s := range append(lines(goodTexts), lines(strings.ReplaceAll(badTexts, "||", "|a b|"))...) {
		if got := Write(ex(s)); got != s {
			t.Errorf("%s is written %s", s, got)
		}
	}
}
