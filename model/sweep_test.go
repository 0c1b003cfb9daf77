package model

import (
	"slices"
	"strings"
	"testing"

	"pavane/api"
	"pavane/core"
)

// agree holds Run and Steps of e, with that much fuel and with less, against the other way to run it.
func agree(t *testing.T, e api.Expr, input string, fuel int) api.Outcome {
	t.Helper()
	want, steps := otherRun(e, []byte(input), fuel)
	got := Run(e, []byte(input), fuel)
	if got != want {
		t.Fatalf("%s of %q with %d: %s, want %s", cut(core.Write(e)), input, fuel, cut(told(got)), cut(told(want)))
	}
	took, ok := Steps(e, []byte(input), fuel)
	ended := want.Err != api.ErrFuel
	if ok != ended || ok && took != steps || !ok && took != 0 {
		t.Fatalf("Steps of %s of %q, %d: %d, %t, want %d, %t", cut(core.Write(e)), input, fuel, took, ok, steps, ended)
	}
	return got
}

// agreeAll holds them with each fuel from below 0 on to one more than it takes, and asks what follows of each and the next.
func agreeAll(t *testing.T, e api.Expr, input string, most int) {
	t.Helper()
	var last api.Outcome
	for fuel := -1; fuel <= most; fuel++ {
		now := agree(t, e, input, fuel)
		if fuel >= 0 && (last.Err != api.ErrFuel && now != last || !strings.HasPrefix(now.Out, last.Out)) {
			t.Fatalf("%s with %d: %s; with one less: %s", cut(core.Write(e)), fuel, cut(told(now)), cut(told(last)))
		}
		if fuel >= 0 && last.Err != api.ErrFuel {
			return
		}
		last = now
	}
}

// short tells all Closed expressions of so many parts, of few kinds of parts: bound are the variables around it, and the next one gets the number next.
func short(parts, bound, next int, yield func(e api.Expr, next int)) {
	if parts == 1 {
		for _, e := range []api.Expr{constant(api.Datum{Kind: api.Bool}), constant(api.Datum{Kind: api.Num, I: api.Int{L: []uint32{7}}}), primitive(api.PRead)} {
			yield(e, next)
		}
		for v := next - bound; v < next; v++ {
			yield(variableOf(v), next)
		}
		return
	}
	short(parts-1, bound, next, func(x api.Expr, next int) {
		for _, p := range []int{api.PCallCC, api.PWrite, api.PCar, api.PProcQ} {
			yield(primitive(p, x), next)
		}
		if bound > 0 {
			yield(api.Expr{Kind: api.ExSet, V: next - bound, Kids: []api.Expr{x}}, next)
		}
		yield(call(x), next)
	})
	for _, rest := range []bool{false, true} {
		short(parts-1, 1, next+1, func(body api.Expr, after int) { yield(lambda(rest, []int{next}, body), after) })
	}
	for first := 1; first < parts-1; first++ {
		short(first, 0, next, func(x api.Expr, next int) {
			short(parts-1-first, 0, next, func(y api.Expr, next int) {
				kids := []api.Expr{x, y}
				yield(call(kids...), next)
				yield(api.Expr{Kind: api.ExSeq, Kids: kids}, next)
				yield(primitive(api.PCons, kids...), next)
			})
		})
	}
}

// All short expressions whose variables stand right in the lambda that binds them.
func TestShortExpressions(t *testing.T) {
	count := 0
	for parts := 1; parts <= 5; parts++ {
		short(parts, 0, 1, func(e api.Expr, _ int) {
			if !core.Closed(e) {
				return
			}
			count++
			agreeAll(t, e, "a", 40)
		})
	}
	if count < 5000 {
		t.Errorf("just %d expressions", count)
	}
}

// maker makes expressions from a row of numbers, which is the same each time.
type maker struct {
	seed uint64
	next int
	left int
}

// pick is a number below n.
func (m *maker) pick(n int) int {
	m.seed = m.seed*6364136223846793005 + 1442695040888963407
	return int(m.seed>>33) % n
}

// expr is an expression in which these variables are bound; it is small, when not much is left.
func (m *maker) expr(bound []int) api.Expr {
	m.left--
	if m.left <= 0 {
		return m.leaf(bound)
	}
	switch m.pick(16) {
	case 0, 1:
		return m.leaf(bound)
	case 2:
		if len(bound) > 0 {
			return api.Expr{Kind: api.ExSet, V: bound[m.pick(len(bound))], Kids: m.exprs(bound, 1)}
		}
		return m.leaf(bound)
	case 3:
		return api.Expr{Kind: api.ExIf, Kids: m.exprs(bound, 3)}
	case 4:
		return m.lambda(bound, m.pick(3), m.pick(4) == 0)
	case 5, 6:
		x := m.expr(bound)
		m.next++
		v := m.next
		return api.Expr{Kind: api.ExLet, V: v, Kids: []api.Expr{x, m.expr(append(slices.Clone(bound), v))}}
	case 7:
		return api.Expr{Kind: api.ExSeq, Kids: m.exprs(bound, 2)}
	case 8:
		if m.pick(2) == 0 {
			return call(variableOf(vProcedure+m.pick(2)), m.expr(bound))
		}
		return call(m.exprs(bound, 1+m.pick(3))...)
	case 9, 10:
		n := m.pick(3)
		return call(append([]api.Expr{m.lambda(bound, n, m.pick(4) == 0)}, m.exprs(bound, n)...)...)
	case 11:
		return primitive(api.PCallCC, m.lambda(bound, 1, m.pick(8) == 0))
	case 12:
		return primitive([]int{api.PWrite, api.PDisplay}[m.pick(2)], m.exprs(bound, 1)...)
	}
	p := 1 + m.pick(38)
	var kids []api.Expr
	for place := range arity(p) {
		kids = append(kids, m.fit(p, place, bound))
	}
	return primitive(p, kids...)
}

// The variables that stand around all: a number, a string, a pair, a list, a box, a procedure, a continuation, and a pair that contains itself.
const (
	vNumber = 1 + iota
	vString
	vPair
	vList
	vBox
	vProcedure
	vContinuation
	vCircle
)

// around is e with these variables around it.
func around(t *testing.T, e api.Expr) api.Expr {
	sources := []string{"3", `"ab"`, "(cons 5 6)", "'(1 2)", "(box 4)", "(lambda (v10 . v11) (cons v10 v11))", "(call/cc (lambda (v12) v12))", "(let v13 (cons 7 8) (begin (set-cdr! v13 v13) v13))"}
	for i, source := range slices.Backward(sources) {
		e = api.Expr{Kind: api.ExLet, V: i + 1, Kids: []api.Expr{parsed(t, source), e}}
	}
	return e
}

// fit is an expression that is, more often than not, of a kind that the primitive takes at that place.
func (m *maker) fit(p, place int, bound []int) api.Expr {
	fits := 0
	switch {
	case p <= api.PLess || p == api.PNumStr:
		fits = vNumber
	case p >= api.PCar && p <= api.PSetCdr && place == 0:
		fits = vPair
	case p >= api.PStrLen && p <= api.PStrEq:
		fits = vString
	case p == api.PApply && place == 1:
		fits = vList
	case p == api.PApply || p == api.PCallCC:
		fits = vProcedure + m.pick(2)
	case p == api.PUnbox || p == api.PSetBox && place == 0:
		fits = vBox
	}
	if fits == 0 || m.pick(4) == 0 {
		return m.expr(bound)
	}
	m.left--
	return variableOf(fits)
}

func (m *maker) exprs(bound []int, n int) []api.Expr {
	var out []api.Expr
	for range n {
		out = append(out, m.expr(bound))
	}
	return out
}

func (m *maker) lambda(bound []int, n int, rest bool) api.Expr {
	if rest && n == 0 {
		n = 1
	}
	var vars []int
	for range n {
		m.next++
		vars = append(vars, m.next)
	}
	return lambda(rest, vars, m.expr(slices.Concat(bound, vars)))
}

func (m *maker) leaf(bound []int) api.Expr {
	if len(bound) > 0 && m.pick(3) > 0 {
		return variableOf(bound[len(bound)-1-m.pick(min(len(bound), 4))])
	}
	number := func(n uint32) api.Datum { return api.Datum{Kind: api.Num, I: api.Int{L: []uint32{n}}} }
	data := []api.Datum{
		number(1), number(2), {Kind: api.Num}, {Kind: api.Bool}, {Kind: api.Bool, B: true}, {Kind: api.Sym, S: "a"}, {Kind: api.Str, S: "s t"}, {Kind: api.List}, {},
		{Kind: api.List, Items: []api.Datum{number(3)}}, {Kind: api.List, Items: []api.Datum{number(3), {Kind: api.List, Items: []api.Datum{number(4)}}}},
		{Kind: api.List, Items: []api.Datum{number(3)}, Tail: []api.Datum{number(5)}},
	}
	return constant(data[m.pick(len(data))])
}

// Many longer expressions.
func TestLongerExpressions(t *testing.T) {
	ends := map[api.Errno]int{}
	m := &maker{seed: 1}
	for i := range 12000 {
		m.next, m.left = 20, 5+i%60
		e := around(t, m.expr([]int{vNumber, vString, vPair, vList, vBox, vProcedure, vContinuation, vCircle}))
		if !core.Closed(e) {
			t.Fatalf("not Closed: %s", core.Write(e))
		}
		end := agree(t, e, "x\x00y", 2000)
		ends[end.Err]++
		if i%10 == 0 {
			agreeAll(t, e, "x\x00y", 300)
		}
	}
	for _, err := range []api.Errno{api.OK, api.ErrType, api.ErrArity, api.ErrRaise, api.ErrFuel, api.ErrZero, api.ErrLong} {
		t.Logf("%v: %d", err, ends[err])
		if ends[err] == 0 {
			t.Errorf("none ends with %v", err)
		}
	}
}
