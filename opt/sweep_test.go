package opt

import (
	"slices"
	"testing"

	"pavane/api"
	"pavane/core"
	"pavane/expand"
	"pavane/reader"
	"pavane/rule"
)

// takes is how many arguments each of the primitives takes, in the order of numbered.
const takes = "22222222211221111111211221111001121120"

// arity is how many arguments the primitive of that number takes, by the table above.
func arity(p int) int { return int(takes[p-1] - '0') }

func lambda(rest bool, vars []int, body api.Expr) api.Expr {
	return api.Expr{Kind: api.ExLambda, Vars: vars, Rest: rest, Kids: []api.Expr{body}}
}

func choice(test, yes, no api.Expr) api.Expr {
	return api.Expr{Kind: api.ExIf, Kids: []api.Expr{test, yes, no}}
}

func bind(v int, is, in api.Expr) api.Expr {
	return api.Expr{Kind: api.ExLet, V: v, Kids: []api.Expr{is, in}}
}

// short tells all Closed expressions of so many parts, of few kinds of parts: bound are the variables around it, and the next one gets the number next.
func short(parts int, bound []int, next int, yield func(e api.Expr, next int)) {
	if parts == 1 {
		yield(constant(api.Datum{Kind: api.Bool}), next)
		yield(numeral(7), next)
		for _, v := range bound {
			yield(variableOf(v), next)
		}
		return
	}
	if parts == 2 {
		yield(primitive(api.PRead), next)
	}
	short(parts-1, bound, next, func(x api.Expr, next int) {
		for _, p := range []int{api.PNot, api.PWrite, api.PProcQ} {
			yield(primitive(p, x), next)
		}
		yield(call(x), next)
	})
	for _, vars := range [][]int{nil, {next}} {
		short(parts-1, slices.Concat(bound, vars), next+len(vars), func(body api.Expr, after int) { yield(lambda(false, vars, body), after) })
	}
	two(parts-1, bound, next, bound, func(x, y api.Expr, next int) {
		yield(call(x, y), next)
		yield(seq(x, y), next)
		yield(primitive(api.PCons, x, y), next)
	})
	two(parts-1, bound, next+1, append(slices.Clone(bound), next), func(x, y api.Expr, after int) { yield(bind(next, x, y), after) })
	for last := 1; last < parts-2; last++ {
		two(parts-1-last, bound, next, bound, func(x, y api.Expr, next int) {
			short(last, bound, next, func(z api.Expr, next int) { yield(choice(x, y, z), next) })
		})
	}
}

// two tells all pairs of so many parts in all; the second one has other variables around it.
func two(parts int, bound []int, next int, inner []int, yield func(x, y api.Expr, next int)) {
	for first := 1; first < parts; first++ {
		short(first, bound, next, func(x api.Expr, next int) {
			short(parts-first, inner, next, func(y api.Expr, next int) { yield(x, y, next) })
		})
	}
}

// counts is how often each rule was used.
type counts [14]int

func (c *counts) check(t *testing.T, least int) {
	t.Helper()
	for r, n := range c {
		if r > 0 && n < least {
			t.Errorf("rule %d was used just %d times", r, n)
		}
	}
	t.Log(*c)
}

// sweep holds Next of e, and of all that it becomes by so many steps, against the other way, and then Steps and Optimize.
func sweep(t *testing.T, e api.Expr, n int, c *counts) {
	t.Helper()
	l, became := others(e, n)
	for i, x := range became {
		s, ok := Next(x)
		if i < len(l) && (!ok || !exactlySteps([]rule.Step{s}, l[i:i+1])) || i == len(l) && i < n && ok {
			t.Fatalf("Next of %s: %s, %t, want %s", text(x), stepsText([]rule.Step{s}), ok, stepsText(l[i:]))
		}
	}
	for _, s := range l {
		c[s.Rule]++
	}
	if got := checkSteps(t, e, n, l); !exactly(got, became[len(l)]) {
		t.Errorf("Optimize of %s, %d: %s", text(e), n, text(got))
	}
}

// Of all short expressions, all steps.
func TestShortExpressions(t *testing.T) {
	var c counts
	count := 0
	for parts := 1; parts <= 5; parts++ {
		short(parts, nil, 1, func(e api.Expr, _ int) {
			if t.Failed() {
				return
			}
			if !rule.May(e) {
				t.Fatalf("not May: %s", text(e))
			}
			count++
			sweep(t, e, 12, &c)
		})
	}
	if count < 10000 {
		t.Errorf("just %d expressions", count)
	}
	t.Log(count, c)
}

// maker makes expressions from a row of numbers, which is the same each time.
type maker struct {
	seed uint64
	next int
	left int
}

// pick is a number below n.
func (m *maker) pick(n int) int {
	m.seed = m.seed*6364136223846793005 + 1442695040888963407
	return int(m.seed>>33) % n
}

func (m *maker) fresh() int {
	m.next++
	return m.next
}

// expr is an expression in which these variables are bound, the parts of which are such that rules may be used; it is small, when not much is left.
func (m *maker) expr(bound []int) api.Expr {
	m.left--
	if m.left <= 0 {
		return m.leaf(bound)
	}
	switch m.pick(14) {
	case 0:
		return m.leaf(bound)
	case 1:
		return choice(m.test(bound), m.expr(bound), m.expr(bound))
	case 2:
		v := m.leaf(bound)
		return choice(v, choice(v, m.expr(bound), m.expr(bound)), choice(m.test(bound), m.expr(bound), choice(v, m.expr(bound), m.expr(bound))))
	case 3:
		return m.lambda(bound, m.pick(3), m.pick(4) == 0)
	case 4, 5:
		x, v := m.expr(bound), m.fresh()
		return bind(v, x, m.expr(append(slices.Clone(bound), v)))
	case 6:
		return seq(m.expr(bound), m.expr(bound))
	case 7:
		return call(m.exprs(bound, 1+m.pick(3))...)
	case 8:
		n := m.pick(3)
		f := m.lambda(bound, n, m.pick(5) == 0)
		return call(append([]api.Expr{f}, m.exprs(bound, n+m.pick(8)/7)...)...)
	case 9:
		return m.inlined(bound)
	case 10:
		return m.twice(bound)
	case 11:
		return primitive(api.PCallCC, m.lambda(bound, 1, false))
	}
	return m.primitive(bound)
}

// primitive is one of values that it takes, more often than not.
func (m *maker) primitive(bound []int) api.Expr {
	p := 1 + m.pick(38)
	var kids []api.Expr
	for place := range arity(p) {
		kids = append(kids, m.fit(p, place, bound))
	}
	return primitive(p, kids...)
}

// inlined is a let of a lambda that is called in it.
func (m *maker) inlined(bound []int) api.Expr {
	n := m.pick(3)
	f, v := m.lambda(bound, n, m.pick(5) == 0), m.fresh()
	inner := append(slices.Clone(bound), v)
	called := func() api.Expr { return call(append([]api.Expr{variableOf(v)}, m.exprs(inner, n)...)...) }
	switch m.pick(4) {
	case 0:
		return bind(v, f, called())
	case 1:
		return bind(v, f, primitive(api.PCons, called(), called()))
	case 2:
		return bind(v, f, choice(called(), called(), m.expr(inner)))
	}
	return bind(v, f, m.expr(inner))
}

// twice is a let of a primitive that stands in it again.
func (m *maker) twice(bound []int) api.Expr {
	p := []int{api.PAdd, api.PSub, api.PEqQ, api.PNot, api.PVoid, api.PProcQ, api.PLess, api.PStrLen, api.PCons, api.PStrApp}[m.pick(10)]
	var kids []api.Expr
	for range arity(p) {
		kids = append(kids, m.leaf(bound))
	}
	x, v := primitive(p, kids...), m.fresh()
	inner := append(slices.Clone(bound), v)
	if m.pick(2) == 0 {
		return bind(v, x, primitive(api.PCons, x, m.expr(inner)))
	}
	return bind(v, x, choice(x, m.expr(inner), primitive(api.PCons, m.expr(inner), x)))
}

func (m *maker) test(bound []int) api.Expr {
	if m.pick(3) == 0 {
		return primitive(api.PNot, m.expr(bound))
	}
	return m.expr(bound)
}

// The variables that stand around all: a number, a string, a pair, a list, a box, a procedure, a continuation, and a pair that contains itself.
const (
	vNumber = 1 + iota
	vString
	vPair
	vList
	vBox
	vProcedure
	vContinuation
	vCircle
)

// around is e with these variables around it.
func around(t *testing.T, e api.Expr) api.Expr {
	sources := []string{"3", `"ab"`, "(cons 5 6)", "'(1 2)", "(box 4)", "(lambda (v10 . v11) (cons v10 v11))", "(call/cc (lambda (v12) v12))", "(let v13 (cons 7 8) (begin (set-cdr! v13 v13) v13))"}
	for i, source := range slices.Backward(sources) {
		e = bind(i+1, parsed(t, source), e)
	}
	return e
}

// fit is an expression that is, more often than not, of a kind that the primitive takes at that place.
func (m *maker) fit(p, place int, bound []int) api.Expr {
	fits := 0
	switch {
	case p <= api.PLess || p == api.PNumStr:
		fits = vNumber
	case p >= api.PCar && p <= api.PSetCdr && place == 0:
		fits = vPair
	case p >= api.PStrLen && p <= api.PStrEq:
		fits = vString
	case p == api.PApply && place == 1:
		fits = vList
	case p == api.PApply || p == api.PCallCC:
		fits = vProcedure + m.pick(2)
	case p == api.PUnbox || p == api.PSetBox && place == 0:
		fits = vBox
	}
	if fits == vNumber && m.pick(2) == 0 {
		m.left--
		return numeral(uint32(1 + m.pick(3)))
	}
	if fits == 0 || m.pick(4) == 0 {
		return m.expr(bound)
	}
	m.left--
	return variableOf(fits)
}

func (m *maker) exprs(bound []int, n int) []api.Expr {
	var out []api.Expr
	for range n {
		out = append(out, m.expr(bound))
	}
	return out
}

func (m *maker) lambda(bound []int, n int, rest bool) api.Expr {
	if rest && n == 0 {
		n = 1
	}
	var vars []int
	for range n {
		vars = append(vars, m.fresh())
	}
	return lambda(rest, vars, m.expr(slices.Concat(bound, vars)))
}

func (m *maker) leaf(bound []int) api.Expr {
	if len(bound) > 0 && m.pick(3) > 0 {
		return variableOf(bound[len(bound)-1-m.pick(min(len(bound), 4))])
	}
	number := func(n uint32) api.Datum { return api.Datum{Kind: api.Num, I: api.Int{L: []uint32{n}}} }
	data := []api.Datum{
		number(1), number(2), {Kind: api.Num}, {Kind: api.Bool}, {Kind: api.Bool, B: true}, {Kind: api.Sym, S: "a"}, {Kind: api.Str, S: "s t"}, {Kind: api.List}, {},
		{Kind: api.List, Items: []api.Datum{number(3)}}, {Kind: api.List, Items: []api.Datum{number(3), {Kind: api.List, Items: []api.Datum{number(4)}}}},
		{Kind: api.List, Items: []api.Datum{number(3)}, Tail: []api.Datum{number(5)}},
	}
	return constant(data[m.pick(len(data))])
}

// Longer expressions: many steps of each.
func TestLongerExpressions(t *testing.T) {
	var c counts
	m := &maker{seed: 1}
	for i := range 200 {
		m.next, m.left = 20, 5+i%50
		e := around(t, m.expr([]int{vNumber, vString, vPair, vList, vBox, vProcedure, vContinuation, vCircle}))
		if !rule.May(e) {
			t.Fatalf("not May: %s", core.Write(e))
		}
		sweep(t, e, 30, &c)
		if t.Failed() {
			return
		}
	}
	c.check(t, 25)
}

// programs have loops, closures, continuations that are called again, and things that change.
const programs = `
	(+ (* 2 3) (if (not (< 1 2)) 4 (quotient 17 5)))
	(let ((x 1) (y (cons 2 3))) (begin (write x) (set-car! y x) (if x (if x (cons x y) 5) 6)))
	(define (fact n) (if (= n 0) 1 (* n (fact (- n 1))))) (fact 10)
	(define (loop i l) (if (< i 5) (loop (+ i 1) (cons i l)) l)) (write (loop 0 '())) (newline)
	(let ((k #f) (n 0)) (let ((x (call/cc (lambda (c) (set! k c) 1)))) (set! n (+ n x)) (if (< n 10) (k n) (cons x n))))
	(let loop ((i 0)) (cond ((read-byte) => (lambda (b) (write b) (loop (+ i 1)))) (else i)))
	(define-syntax swap! (syntax-rules () ((_ a b) (let ((t a)) (set! a b) (set! b t))))) (let ((x 1) (y 2)) (swap! x y) (cons x y))
	(let* ((p (cons 1 2)) (q p)) (set-car! p 9) (if (eq? p q) (raise (cons 'same p)) 0))
	(let ((f (lambda (x) (* x x)))) (write (f 3)) (let ((a (+ 1 2)) (b (+ 1 2))) (car (f a))))
	(let loop () (loop))
	((lambda (f) (f f 3)) (lambda (f n) (if (< n 1) (car n) (f f (- n 1)))))
	((lambda (a b) (let ((c (read-byte))) (if c (if c (cons a c) b) (if c 7 (cons b c))))) (string-append "a" "b") (begin (display 'x) 8))
`

func programOf(t *testing.T, source string) api.Expr {
	t.Helper()
	l, place, err := reader.All(source)
	if err != api.OK {
		t.Fatalf("%s: %v at %d", source, err, place)
	}
	e, which, err := expand.Program(l)
	if err != api.OK {
		t.Fatalf("%s: %v in %d", source, err, which)
	}
	if e, err = core.Boxes(e); err != api.OK {
		t.Fatalf("%s: %v", source, err)
	}
	return e
}

func TestPrograms(t *testing.T) {
	var c counts
	for _, source := range lines(programs) {
		sweep(t, programOf(t, source), most, &c)
		if t.Failed() {
			return
		}
	}
	t.Log(c)
}
