package rule

import (
	"slices"
	"testing"

	"pavane/api"
	"pavane/core"
	"pavane/expand"
	"pavane/prim"
	"pavane/reader"
)

// other is what Here should say of what is Good, put plainly and in another way: of the N-th of something all ways to change one are made, and one is taken.
func other(x api.Expr, s Step, next int) (api.Expr, bool) {
	k := func(i int) api.Expr {
		if i >= len(x.Kids) {
			return api.Expr{}
		}
		return x.Kids[i]
	}
	first := k(0)
	pick := func(l []api.Expr) (api.Expr, bool) {
		if s.N < 1 || s.N > len(l) {
			return api.Expr{}, false
		}
		return l[s.N-1], true
	}
	isLet := x.Kind == api.ExLet
	switch s.Rule {
	case 1:
		var l []api.Datum
		for _, kid := range x.Kids {
			if kid.Kind != api.ExConst || len(kid.D.Items) > 0 {
				return api.Expr{}, false
			}
			l = append(l, kid.D)
		}
		if x.Kind != api.ExPrim || !isPlain(x.P) {
			return api.Expr{}, false
		}
		d, err := prim.Do(x.P, l)
		return constant(d), err == api.OK
	case 2:
		if first.Kind == api.ExConst && first.D.Kind == api.Bool && !first.D.B {
			return k(2), x.Kind == api.ExIf
		}
		return k(1), x.Kind == api.ExIf && first.Kind == api.ExConst
	case 3:
		return k(1), x.Kind == api.ExSeq && isDull(first)
	case 4:
		return k(1), isLet && isDull(first) && len(everyWay(k(1), isVariable(x.V), self)) == 0
	case 5:
		return replaced(k(1), x.V, first), isLet && isPlainLeaf(first)
	case 6:
		if x.Kind != api.ExCall || first.Kind != api.ExLambda || first.Rest || len(first.Vars)+1 != len(x.Kids) {
			return api.Expr{}, false
		}
		return lets(first.Vars, x.Kids[1:], first.Kids[0]), true
	case 7:
		if !isLet || first.Kind != api.ExLambda {
			return api.Expr{}, false
		}
		ways := everyWay(k(1), func(e api.Expr) bool { return e.Kind == api.ExCall && isVariable(x.V)(e.Kids[0]) }, func(e api.Expr) api.Expr {
			return call(append([]api.Expr{renumbered(first, next)}, e.Kids[1:]...)...)
		})
		in, ok := pick(ways)
		return bind(x.V, first, in), ok
	case 8:
		if !isLet || first.Kind != api.ExPrim || !isPure(first.P) || slices.ContainsFunc(first.Kids, func(e api.Expr) bool { return !isPlainLeaf(e) }) {
			return api.Expr{}, false
		}
		ways := everyWay(k(1), func(e api.Expr) bool { return exactly(e, first) }, func(api.Expr) api.Expr { return variableOf(x.V) })
		in, ok := pick(ways)
		return bind(x.V, first, in), ok
	case 9:
		if x.Kind != api.ExIf || first.Kind != api.ExPrim || first.P != api.PNot {
			return api.Expr{}, false
		}
		return choice(first.Kids[0], k(2), k(1)), true
	case 10:
		if !isLet || first.Kind != api.ExLet {
			return api.Expr{}, false
		}
		return bind(first.V, first.Kids[0], bind(x.V, first.Kids[1], k(1))), true
	case 11:
		if !isLet || first.Kind != api.ExSeq {
			return api.Expr{}, false
		}
		return seq(first.Kids[0], bind(x.V, first.Kids[1], k(1))), true
	case 12:
		if x.Kind != api.ExIf || first.Kind != api.ExVar {
			return api.Expr{}, false
		}
		isSuch := func(e api.Expr) bool { return e.Kind == api.ExIf && isVariable(first.V)(e.Kids[0]) }
		if s.No {
			in, ok := pick(everyWay(k(2), isSuch, func(e api.Expr) api.Expr { return e.Kids[2] }))
			return choice(first, k(1), in), ok
		}
		in, ok := pick(everyWay(k(1), isSuch, func(e api.Expr) api.Expr { return e.Kids[1] }))
		return choice(first, in, k(2)), ok
	case 13:
		inner, ok := pick(x.Kids)
		if !ok || x.Kind != api.ExPrim && x.Kind != api.ExCall || inner.Kind != api.ExLet {
			return api.Expr{}, false
		}
		around := x
		around.Kids = slices.Concat(x.Kids[:s.N-1], []api.Expr{inner.Kids[1]}, x.Kids[s.N:])
		return bind(inner.V, inner.Kids[0], around), !slices.ContainsFunc(x.Kids[:s.N-1], func(e api.Expr) bool { return !isPlainLeaf(e) })
	}
	return api.Expr{}, false
}

func self(e api.Expr) api.Expr { return e }

func isVariable(v int) func(api.Expr) bool {
	return func(e api.Expr) bool { return (e.Kind == api.ExVar || e.Kind == api.ExSet) && e.V == v }
}

func isPlainLeaf(e api.Expr) bool {
	return e.Kind == api.ExVar || e.Kind == api.ExConst && len(e.D.Items) == 0
}

// isDull is Idle, by a list of all that is in e: nothing in it, but in a lambda, is a call, sets something, or is a primitive that may do something.
func isDull(e api.Expr) bool {
	switch e.Kind {
	case api.ExLambda:
		return true
	case api.ExCall, api.ExSet:
		return false
	case api.ExPrim:
		if idles[e.P-1] != '*' {
			return false
		}
	}
	for _, kid := range e.Kids {
		if !isDull(kid) {
			return false
		}
	}
	return true
}

// lets are x with these variables bound to these around it, the first one outermost.
func lets(vars []int, are []api.Expr, x api.Expr) api.Expr {
	if len(vars) == 0 {
		return x
	}
	return bind(vars[0], are[0], lets(vars[1:], are[1:], x))
}

// everyWay are all ways in which one expression in e that is such a one may become what change makes of it, from the left, outer ones first.
func everyWay(e api.Expr, is func(api.Expr) bool, change func(api.Expr) api.Expr) []api.Expr {
	var out []api.Expr
	if is(e) {
		out = append(out, change(e))
	}
	for i, kid := range e.Kids {
		for _, way := range everyWay(kid, is, change) {
			around := e
			around.Kids = slices.Clone(e.Kids)
			around.Kids[i] = way
			out = append(out, around)
		}
	}
	return out
}

// replaced is e with to in place of each ExVar v: in what is Good no variable is bound twice.
func replaced(e api.Expr, v int, to api.Expr) api.Expr {
	if e.Kind == api.ExVar && e.V == v {
		return to
	}
	kids := e.Kids
	e.Kids = nil
	for _, kid := range kids {
		e.Kids = append(e.Kids, replaced(kid, v, to))
	}
	return e
}

// renumbered is e with what is bound in it numbered from from on, where it stands.
func renumbered(e api.Expr, from int) api.Expr {
	numbers := map[int]int{}
	var number func(api.Expr)
	number = func(e api.Expr) {
		vars := e.Vars
		if e.Kind == api.ExLet {
			vars = []int{e.V}
		}
		for _, v := range vars {
			numbers[v] = from
			from++
		}
		for _, kid := range e.Kids {
			number(kid)
		}
	}
	number(e)
	var rename func(api.Expr) api.Expr
	rename = func(e api.Expr) api.Expr {
		if n, ok := numbers[e.V]; ok {
			e.V = n
		}
		vars, kids := e.Vars, e.Kids
		e.Vars, e.Kids = nil, nil
		for _, v := range vars {
			e.Vars = append(e.Vars, numbers[v])
		}
		for _, kid := range kids {
			e.Kids = append(e.Kids, rename(kid))
		}
		return e
	}
	return rename(e)
}

// steps are all steps that are worth a try in one place.
func steps() []Step {
	var out []Step
	for rule := 1; rule <= 13; rule++ {
		out = append(out, Step{Rule: rule, N: 1})
		if asksN(rule) {
			out = append(out, Step{Rule: rule}, Step{Rule: rule, N: 2}, Step{Rule: rule, N: 3})
		}
		if rule == Known {
			out = append(out, Step{Rule: rule, N: 1, No: true}, Step{Rule: rule, N: 2, No: true})
		}
	}
	return out
}

// counts is how often a rule could be used, and changed the expression.
type counts [14]int

// sweep holds Here and Apply of all steps in all places of e against the other way, and what e means against what comes out.
func sweep(t *testing.T, e api.Expr, l []Step, c *counts) {
	t.Helper()
	next, tried := 1+slices.Max(append(core.Bound(e), 0)), 0
	for path := range everyPath(e) {
		x := e
		for _, i := range path {
			x = x.Kids[i]
		}
		for _, s := range l {
			want, wants := other(x, s, next)
			got, ok := Here(x, s, next)
			if ok != wants || ok && !exactly(got, want) || !ok && !isZero(got) {
				t.Fatalf("Here of %s by %s: %s, %t, want %s, %t", text(x), stepText(s), text(got), ok, text(want), wants)
			}
			s.Path = path
			if !ok {
				tried++
				if tried%100 > 0 {
					continue
				}
				if got, err := Apply(e, s); err != api.ErrProof || !isZero(got) {
					t.Fatalf("Apply to %s by %s at %v: %s, %v", text(e), stepText(s), path, text(got), err)
				}
				continue
			}
			made, err := Apply(e, s)
			whole, _ := core.Put(e, path, want)
			if err != api.OK || !exactly(made, whole) {
				t.Fatalf("Apply to %s by %s at %v: %s, %v, want %s", text(e), stepText(s), path, text(made), err, text(whole))
			}
			c[s.Rule]++
			meansTheSame(t, e, made, s)
			if t.Failed() {
				return
			}
		}
	}
}

func (c *counts) check(t *testing.T, least int) {
	t.Helper()
	for rule, n := range c {
		if rule > 0 && n < least {
			t.Errorf("rule %d was used just %d times", rule, n)
		}
	}
	t.Log(*c)
}

// short tells all Closed expressions of so many parts, of few kinds of parts: bound are the variables around it, and the next one gets the number next.
func short(parts int, bound []int, next int, yield func(e api.Expr, next int)) {
	if parts == 1 {
		yield(constant(api.Datum{Kind: api.Bool}), next)
		yield(numeral(7), next)
		for _, v := range bound {
			yield(variableOf(v), next)
		}
		return
	}
	if parts == 2 {
		yield(primitive(api.PRead), next)
	}
	short(parts-1, bound, next, func(x api.Expr, next int) {
		for _, p := range []int{api.PNot, api.PWrite, api.PProcQ} {
			yield(primitive(p, x), next)
		}
		yield(call(x), next)
	})
	for _, vars := range [][]int{nil, {next}} {
		short(parts-1, slices.Concat(bound, vars), next+len(vars), func(body api.Expr, after int) { yield(lambda(false, vars, body), after) })
	}
	two(parts-1, bound, next, bound, func(x, y api.Expr, next int) {
		yield(call(x, y), next)
		yield(seq(x, y), next)
		yield(primitive(api.PCons, x, y), next)
	})
	two(parts-1, bound, next+1, append(slices.Clone(bound), next), func(x, y api.Expr, after int) { yield(bind(next, x, y), after) })
	for last := 1; last < parts-2; last++ {
		two(parts-1-last, bound, next, bound, func(x, y api.Expr, next int) {
			short(last, bound, next, func(z api.Expr, next int) { yield(choice(x, y, z), next) })
		})
	}
}

// two tells all pairs of so many parts in all; the second one has other variables around it.
func two(parts int, bound []int, next int, inner []int, yield func(x, y api.Expr, next int)) {
	for first := 1; first < parts; first++ {
		short(first, bound, next, func(x api.Expr, next int) {
			short(parts-first, inner, next, func(y api.Expr, next int) { yield(x, y, next) })
		})
	}
}

func TestShortExpressions(t *testing.T) {
	var c counts
	count, all := 0, steps()
	for parts := 1; parts <= 5; parts++ {
		short(parts, nil, 1, func(e api.Expr, _ int) {
			if t.Failed() {
				return
			}
			if !May(e) {
				t.Fatalf("not May: %s", text(e))
			}
			count++
			sweep(t, e, all, &c)
		})
	}
	if count < 10000 {
		t.Errorf("just %d expressions", count)
	}
}

// maker makes expressions from a row of numbers, which is the same each time.
type maker struct {
	seed uint64
	next int
	left int
}

// pick is a number below n.
func (m *maker) pick(n int) int {
	m.seed = m.seed*6364136223846793005 + 1442695040888963407
	return int(m.seed>>33) % n
}

func (m *maker) fresh() int {
	m.next++
	return m.next
}

// expr is an expression in which these variables are bound, the parts of which are such that rules may be used; it is small, when not much is left.
func (m *maker) expr(bound []int) api.Expr {
	m.left--
	if m.left <= 0 {
		return m.leaf(bound)
	}
	switch m.pick(14) {
	case 0:
		return m.leaf(bound)
	case 1:
		return choice(m.test(bound), m.expr(bound), m.expr(bound))
	case 2:
		v := m.leaf(bound)
		return choice(v, choice(v, m.expr(bound), m.expr(bound)), choice(m.test(bound), m.expr(bound), choice(v, m.expr(bound), m.expr(bound))))
	case 3:
		return m.lambda(bound, m.pick(3), m.pick(4) == 0)
	case 4, 5:
		x, v := m.expr(bound), m.fresh()
		return bind(v, x, m.expr(append(slices.Clone(bound), v)))
	case 6:
		return seq(m.expr(bound), m.expr(bound))
	case 7:
		return call(m.exprs(bound, 1+m.pick(3))...)
	case 8:
		n := m.pick(3)
		f := m.lambda(bound, n, m.pick(5) == 0)
		return call(append([]api.Expr{f}, m.exprs(bound, n+m.pick(8)/7)...)...)
	case 9:
		return m.inlined(bound)
	case 10:
		return m.twice(bound)
	case 11:
		return primitive(api.PCallCC, m.lambda(bound, 1, false))
	}
	return m.primitive(bound)
}

// primitive is one of values that it takes, more often than not.
func (m *maker) primitive(bound []int) api.Expr {
	p := 1 + m.pick(38)
	var kids []api.Expr
	for place := range arity(p) {
		kids = append(kids, m.fit(p, place, bound))
	}
	return primitive(p, kids...)
}

// inlined is a let of a lambda that is called in it.
func (m *maker) inlined(bound []int) api.Expr {
	n := m.pick(3)
	f, v := m.lambda(bound, n, m.pick(5) == 0), m.fresh()
	inner := append(slices.Clone(bound), v)
	called := func() api.Expr { return call(append([]api.Expr{variableOf(v)}, m.exprs(inner, n)...)...) }
	switch m.pick(4) {
	case 0:
		return bind(v, f, called())
	case 1:
		return bind(v, f, primitive(api.PCons, called(), called()))
	case 2:
		return bind(v, f, choice(called(), called(), m.expr(inner)))
	}
	return bind(v, f, m.expr(inner))
}

// twice is a let of a primitive that stands in it again.
func (m *maker) twice(bound []int) api.Expr {
	p := []int{api.PAdd, api.PSub, api.PEqQ, api.PNot, api.PVoid, api.PProcQ, api.PLess, api.PStrLen, api.PCons, api.PStrApp}[m.pick(10)]
	var kids []api.Expr
	for range arity(p) {
		kids = append(kids, m.leaf(bound))
	}
	x, v := primitive(p, kids...), m.fresh()
	inner := append(slices.Clone(bound), v)
	if m.pick(2) == 0 {
		return bind(v, x, primitive(api.PCons, x, m.expr(inner)))
	}
	return bind(v, x, choice(x, m.expr(inner), primitive(api.PCons, m.expr(inner), x)))
}

func (m *maker) test(bound []int) api.Expr {
	if m.pick(3) == 0 {
		return primitive(api.PNot, m.expr(bound))
	}
	return m.expr(bound)
}

// The variables that stand around all: a number, a string, a pair, a list, a box, a procedure, a continuation, and a pair that contains itself.
const (
	vNumber = 1 + iota
	vString
	vPair
	vList
	vBox
	vProcedure
	vContinuation
	vCircle
)

// around is e with these variables around it.
func around(t *testing.T, e api.Expr) api.Expr {
	sources := []string{"3", `"ab"`, "(cons 5 6)", "'(1 2)", "(box 4)", "(lambda (v10 . v11) (cons v10 v11))", "(call/cc (lambda (v12) v12))", "(let v13 (cons 7 8) (begin (set-cdr! v13 v13) v13))"}
	for i, source := range slices.Backward(sources) {
		e = bind(i+1, parsed(t, source), e)
	}
	return e
}

// fit is an expression that is, more often than not, of a kind that the primitive takes at that place.
func (m *maker) fit(p, place int, bound []int) api.Expr {
	fits := 0
	switch {
	case p <= api.PLess || p == api.PNumStr:
		fits = vNumber
	case p >= api.PCar && p <= api.PSetCdr && place == 0:
		fits = vPair
	case p >= api.PStrLen && p <= api.PStrEq:
		fits = vString
	case p == api.PApply && place == 1:
		fits = vList
	case p == api.PApply || p == api.PCallCC:
		fits = vProcedure + m.pick(2)
	case p == api.PUnbox || p == api.PSetBox && place == 0:
		fits = vBox
	}
	if fits == vNumber && m.pick(2) == 0 {
		m.left--
		return numeral(uint32(1 + m.pick(3)))
	}
	if fits == 0 || m.pick(4) == 0 {
		return m.expr(bound)
	}
	m.left--
	return variableOf(fits)
}

func (m *maker) exprs(bound []int, n int) []api.Expr {
	var out []api.Expr
	for range n {
		out = append(out, m.expr(bound))
	}
	return out
}

func (m *maker) lambda(bound []int, n int, rest bool) api.Expr {
	if rest && n == 0 {
		n = 1
	}
	var vars []int
	for range n {
		vars = append(vars, m.fresh())
	}
	return lambda(rest, vars, m.expr(slices.Concat(bound, vars)))
}

func (m *maker) leaf(bound []int) api.Expr {
	if len(bound) > 0 && m.pick(3) > 0 {
		return variableOf(bound[len(bound)-1-m.pick(min(len(bound), 4))])
	}
	number := func(n uint32) api.Datum { return api.Datum{Kind: api.Num, I: api.Int{L: []uint32{n}}} }
	data := []api.Datum{
		number(1), number(2), {Kind: api.Num}, {Kind: api.Bool}, {Kind: api.Bool, B: true}, {Kind: api.Sym, S: "a"}, {Kind: api.Str, S: "s t"}, {Kind: api.List}, {},
		{Kind: api.List, Items: []api.Datum{number(3)}}, {Kind: api.List, Items: []api.Datum{number(3), {Kind: api.List, Items: []api.Datum{number(4)}}}},
		{Kind: api.List, Items: []api.Datum{number(3)}, Tail: []api.Datum{number(5)}},
	}
	return constant(data[m.pick(len(data))])
}

// Longer expressions, in each place of which all steps are tried.
func TestLongerExpressions(t *testing.T) {
	var c counts
	all := steps()
	m := &maker{seed: 1}
	for i := range 400 {
		m.next, m.left = 20, 5+i%50
		e := around(t, m.expr([]int{vNumber, vString, vPair, vList, vBox, vProcedure, vContinuation, vCircle}))
		if !May(e) {
			t.Fatalf("not May: %s", core.Write(e))
		}
		sweep(t, e, all, &c)
		if t.Failed() {
			return
		}
	}
	c.check(t, 50)
}

// programs have loops, closures, continuations that are called again, and things that change.
const programs = `
	(define (fact n) (if (= n 0) 1 (* n (fact (- n 1))))) (fact 10)
	(define (loop i l) (if (< i 5) (loop (+ i 1) (cons i l)) l)) (write (loop 0 '())) (newline)
	(let ((k #f) (n 0)) (let ((x (call/cc (lambda (c) (set! k c) 1)))) (set! n (+ n x)) (if (< n 10) (k n) (cons x n))))
	(define (gen l) (lambda () (if (null? l) #f (let ((x (car l))) (set! l (cdr l)) x)))) (define g (gen '(1 2 3))) (cons (g) (cons (g) (cons (g) (g))))
	(let loop ((i 0)) (cond ((read-byte) => (lambda (b) (write b) (loop (+ i 1)))) (else i)))
	(do ((i 0 (+ i 1)) (s "" (string-append s (number->string i)))) ((= i 4) s))
	(define-syntax swap! (syntax-rules () ((_ a b) (let ((t a)) (set! a b) (set! b t))))) (let ((x 1) (y 2)) (swap! x y) (cons x y))
	(let* ((p (cons 1 2)) (q p)) (set-car! p 9) (if (eq? p q) (raise (cons 'same p)) 0))
	(define (even? n) (or (= n 0) (odd? (- n 1)))) (define (odd? n) (and (not (= n 0)) (even? (- n 1)))) (cons (even? 7) (odd? 7))
	(let loop () (loop))
	((lambda (f) (f f 3)) (lambda (f n) (if (< n 1) (car n) (f f (- n 1)))))
`

func TestPrograms(t *testing.T) {
	var c counts
	all := steps()
	for _, source := range lines(programs) {
		l, place, err := reader.All(source)
		if err != api.OK {
			t.Fatalf("%s: %v at %d", source, err, place)
		}
		e, which, err := expand.Program(l)
		if err != api.OK {
			t.Fatalf("%s: %v in %d", source, err, which)
		}
		if e, err = core.Boxes(e); err != api.OK {
			t.Fatalf("%s: %v", source, err)
		}
		sweep(t, e, all, &c)
		// As many steps as there are, one behind the other, the last one of those that fit first.
		for range 40 {
			s, fits := lastStep(e, all)
			if !fits {
				break
			}
			made, err := Apply(e, s)
			if err != api.OK {
				t.Fatalf("Apply to %s by %s: %v", text(e), stepText(s), err)
			}
			meansTheSame(t, e, made, s)
			e = made
		}
	}
	t.Log(c)
}

// lastStep is the last step, in the last place, that fits.
func lastStep(e api.Expr, l []Step) (Step, bool) {
	var out Step
	found := false
	for path := range everyPath(e) {
		x, _ := core.At(e, path)
		for _, s := range l {
			if _, ok := Here(x, s, 1000); ok {
				out, found = s, true
				out.Path = path
			}
		}
	}
	return out, found
}
