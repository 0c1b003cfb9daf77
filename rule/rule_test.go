package rule

import (
	"math"
	"strings"
	"testing"

	"pavane/api"
)

func TestNumbers(t *testing.T) {
	for i, rule := range []int{Fold, Branch, Drop, Unused, Copy, Beta, Inline, Again, Not, Float, Ahead, Known, Lift} {
		if rule != i+1 {
			t.Errorf("rule %d is %d", i+1, rule)
		}
	}
}

// mays are expressions that May says yes of.
const mays = `
	1
	'(1 (2) . c)
	nothing
	(void)
	(lambda (v1) v1)
	(lambda v7 v7)
	(lambda (v1000000 v1 . v3) (if v1 v3 v1000000))
	(let v1 1 v1)
	(let v9 (lambda (v2) (v2 v2)) (begin (v9 v9) (+ 1 "a")))
	(1 2 3)
	(let v1 (box 1) (set-box! v1 (set-car! 1 2)))
`

// mayNots are expressions that May says no of: what is not Closed, and what sets.
const mayNots = `
	v1
	(lambda (v1) v2)
	(let v1 v1 1)
	(begin (let v1 1 v1) v1)
	(set! v1 1)
	(let v1 1 (let v1 2 3))
	(begin (lambda (v1) v1) (lambda (v1) v1))
	(lambda (v1000001) 1)
	(let v0 1 2)
	(+ 1)
	(void 1)
	(let v1 1 (set! v1 2))
	(lambda (v1) (set! v1 v1))
	(lambda v1 (lambda () (set! v1 1)))
	(let v1 1 (if (set! v1 2) 3 4))
	(let v1 1 (if 2 (set! v1 3) 4))
	(let v1 1 (if 2 3 (set! v1 4)))
	(let v1 1 ((set! v1 2) 3 4))
	(let v1 1 (2 3 (set! v1 4)))
	(let v1 1 (+ (set! v1 2) 3))
	(let v1 1 (+ 2 (set! v1 3)))
	(let v1 1 (let v2 (set! v1 3) v2))
	(let v1 1 (let v2 3 (set! v2 v1)))
	(let v1 1 (begin (set! v1 2) 3))
	(let v1 1 (begin 2 (set! v1 3)))
	(begin (let v1 1 (lambda (v2) (begin v2 (if v1 2 (cons 1 (set! v2 v1)))))) 1)
`

func TestMay(t *testing.T) {
	for _, source := range lines(mays) {
		if e := parsed(t, source); !May(e) {
			t.Errorf("May of %s: false", source)
		}
	}
	for _, source := range lines(mayNots) {
		if e := parsed(t, source); May(e) {
			t.Errorf("May of %s: true", source)
		}
	}
	for _, e := range []api.Expr{chain(mostItems, numeral(1)), row(mostItems), chain(mostItems, parsed(t, "(lambda (v1) v1)"))} {
		if !May(e) {
			t.Errorf("May of %s: false", text(e))
		}
	}
	for _, e := range odd() {
		if May(e) {
			t.Errorf("May of %s: true", text(e))
		}
	}
}

// odd are expressions that are not Good: of no Kind, with what their Kind does not name, too great, and some that hold themselves.
func odd() []api.Expr {
	out := []api.Expr{
		{}, {Kind: 10}, {Kind: -1}, {Kind: math.MinInt}, {Kind: math.MaxInt, Kids: []api.Expr{numeral(1)}},
		{Kind: api.ExConst, V: 1}, {Kind: api.ExConst, Kids: []api.Expr{numeral(1)}}, {Kind: api.ExConst, D: api.Datum{Kind: 6}},
		{Kind: api.ExPrim, P: 39}, {Kind: api.ExPrim, P: -1, Kids: []api.Expr{numeral(1)}}, {Kind: api.ExPrim, P: math.MinInt},
		chain(mostItems+1, numeral(1)), row(mostItems + 1), doubled(13, numeral(1)), doubled(60, numeral(1)), chain(70000, numeral(1)),
	}
	for kind := range 11 {
		out = append(out, api.Expr{Kind: kind, P: 40}, api.Expr{Kind: kind, Vars: []int{1}, Rest: true, V: 1, P: 1, Kids: make([]api.Expr, 3)})
		for _, wide := range []int{1, 2, 3, 500} {
			out = append(out, ring(kind, api.PCons, wide))
		}
	}
	return out
}

func TestSimple(t *testing.T) {
	for source, want := range map[string]bool{
		"v1": true, "v1000000": true, "v0": true, "1": true, "-5": true, `"a"`: true, "#f": true, "#t": true, "'a": true, "'()": true, "nothing": true,
		"123456789012345678901234567890": true,
		"'(1)":                           false, "'(())": false, "'(a . b)": false, "'(1 2 3)": false,
		"(lambda (v1) v1)": false, "(lambda () 1)": false, "(void)": false, "(not 1)": false, "(+ 1 2)": false, "(if v1 v1 v1)": false,
		"(let v1 1 v1)": false, "(begin 1 2)": false, "(v1)": false, "(set! v1 1)": false,
	} {
		if got := Simple(parsed(t, source)); got != want {
			t.Errorf("Simple of %s: %t", source, got)
		}
	}
	// What a Kind does not name is not looked at.
	full := []api.Expr{numeral(1), numeral(2), numeral(3)}
	for kind := -1; kind <= 11; kind++ {
		e := api.Expr{Kind: kind, D: api.Datum{Kind: api.Str, S: "a"}, V: 3, Vars: []int{4}, P: api.PNot, Kids: full}
		if want := kind == api.ExVar || kind == api.ExConst; Simple(e) != want {
			t.Errorf("Simple of Kind %d: %t", kind, !want)
		}
	}
	// An atom is a datum that is no List with Items: what it is besides is not asked.
	one := []api.Datum{{Kind: api.Bool}}
	for _, d := range []api.Datum{{Kind: api.List, Tail: one}, {Kind: 9, Items: one}, {Kind: api.Num, Items: one}, {Kind: -1}} {
		if !Simple(constant(d)) {
			t.Errorf("Simple of the constant %v: false", d)
		}
	}
}

// idle are expressions that Idle says yes of.
const idle = `
	1
	'(1 2)
	v1
	v0
	(lambda (v1) (v1 (car 5)))
	(lambda () (set! v1 2))
	(cons 1 '(2))
	(box (box v1))
	(void)
	(not (null? (eq? v1 v2)))
	(if v1 (cons 1 2) (lambda () (raise 1)))
	(if (if 1 2 3) (begin 1 2) (let v1 2 3))
	(let v1 (cons 1 2) (begin v1 (box v1)))
	(begin (lambda (v1) (v1)) (procedure? v2))
`

// notIdle are expressions that Idle says no of.
const notIdle = `
	(set! v1 1)
	(v1)
	((lambda () 1))
	(1 2)
	(cons (v1) 2)
	(cons 2 (v1))
	(box (car v1))
	(not (+ 1 2))
	(if (v1) 1 2)
	(if 1 (v1) 2)
	(if 1 2 (v1))
	(let v1 (v2) 1)
	(let v1 1 (v2))
	(let v1 1 (set! v1 2))
	(begin (v1) 1)
	(begin 1 (v1))
	(begin 1 (begin 2 (if 3 4 (cons 5 (let v1 (eq? 6 (not (unbox v1))) 8)))))
`

func TestIdle(t *testing.T) {
	for _, source := range lines(idle) {
		if !Idle(parsed(t, source)) {
			t.Errorf("Idle of %s: false", source)
		}
	}
	for _, source := range lines(notIdle) {
		if Idle(parsed(t, source)) {
			t.Errorf("Idle of %s: true", source)
		}
	}
	for p := 1; p <= 38; p++ {
		var kids []api.Expr
		for range arity(p) {
			kids = append(kids, numeral(1))
		}
		want := idles[p-1] == '*'
		if got := Idle(primitive(p, kids...)); got != want {
			t.Errorf("Idle of %s of constants: %t", strings.Fields(numbered)[p-1], got)
		}
		for i := range kids {
			kids[i] = call(numeral(1))
			if Idle(primitive(p, kids...)) {
				t.Errorf("Idle of %s of a call: true", strings.Fields(numbered)[p-1])
			}
			kids[i] = numeral(1)
		}
	}
	for _, p := range []int{math.MinInt, -38, -1, 0, 39, 1 << 32, math.MaxInt} {
		if Idle(primitive(p)) || Idle(primitive(p, numeral(1))) {
			t.Errorf("Idle of the primitive %d: true", p)
		}
	}
	for _, kind := range []int{math.MinInt, -1, 0, 10, math.MaxInt} {
		if Idle(api.Expr{Kind: kind}) || Idle(api.Expr{Kind: kind, P: api.PVoid, V: 1}) {
			t.Errorf("Idle of the Kind %d: true", kind)
		}
	}
}

// Idle has no bound but the document's: that of 2^16 parts in one another.
func TestIdleOfMuch(t *testing.T) {
	for _, e := range []api.Expr{chain(mostItems+1, numeral(1)), chain(60000, parsed(t, "v1")), doubled(20, numeral(1)), {Kind: api.ExLambda, Kids: []api.Expr{ring(api.ExSeq, 0, 2)}}} {
		if !Idle(e) {
			t.Errorf("Idle of %d expressions in one another: false", deepOf(e))
		}
	}
	for _, e := range []api.Expr{chain(60000, parsed(t, "(v1)")), ring(api.ExSeq, 0, 1), ring(api.ExPrim, api.PCons, 2), ring(api.ExIf, 0, 500), doubled(60, numeral(1)), doubled(60, parsed(t, "(v1)"))} {
		if Idle(e) {
			t.Errorf("Idle of what is not, or does not end: true")
		}
	}
}

func deepOf(e api.Expr) int {
	deep := 1
	for ; len(e.Kids) > 0; e = e.Kids[0] {
		deep++
		if deep > 100000 {
			break
		}
	}
	return deep
}
