package opt

import (
	"math"
	"strconv"
	"strings"
	"testing"

	"pavane/api"
)

func checkUses(t *testing.T, e api.Expr, v, all, called int) {
	t.Helper()
	if a, c := Uses(e, v); a != all || c != called {
		t.Errorf("Uses of %s, %d: %d, %d, want %d, %d", text(e), v, a, c, all, called)
	}
}

// Each line: a variable: an expression => how often it is free, and how often of these the first of a call.
func TestUses(t *testing.T) {
	for _, line := range lines(`
		1: v1 => 1 0
		1: v2 => 0 0
		2: v2 => 1 0
		1: 5 => 0 0
		1: 'v1 => 0 0
		1: '(v1 1) => 0 0
		1: (v1) => 1 1
		1: (v1 v2) => 1 1
		2: (v1 v2) => 1 0
		3: (v1 v2) => 0 0
		1: (v1 v1) => 2 1
		1: (v1 v1 v1) => 3 1
		1: ((v1)) => 1 1
		1: ((v1) v1) => 2 1
		1: ((v1 (v1 2)) (v1 v1)) => 4 3
		1: (cons v1 v2) => 1 0
		1: (cons (v1 v2) v1) => 2 1
		1: (not v1) => 1 0
		1: (if v1 v1 v1) => 3 0
		1: (if (v1) (v1 2) (v2 v1)) => 3 2
		1: ((if v1 v1 v1) v1) => 4 0
		1: ((begin v1 v1) v1) => 3 0
		1: (begin v1 (v1 v2)) => 2 1

		1: (set! v1 2) => 0 0
		1: (set! v1 v1) => 1 0
		1: (set! v2 (v1 v1)) => 2 1
		2: (set! v2 (v1 v1)) => 0 0
		1: ((set! v1 2) v1) => 1 0

		1: (lambda (v1) v1) => 0 0
		1: (lambda (v1) (v1 v1)) => 0 0
		1: (lambda (v2) (v1 v1)) => 2 1
		1: (lambda (v2 v1 v3) (v1 v2)) => 0 0
		2: (lambda (v2 v1 v3) (v1 v2)) => 0 0
		3: (lambda (v2 v1 v3) (v1 v2)) => 0 0
		4: (lambda (v2 v1 v3) (v4 v2)) => 1 1
		1: (lambda (v2 . v1) (v1 v2)) => 0 0
		1: (lambda (v2 . v3) (v1 v2)) => 1 1
		1: (lambda (v1) (lambda (v2) (v1 v2))) => 0 0
		1: (lambda (v2) (lambda (v1) (v1 v2))) => 0 0
		2: (lambda (v1) (lambda (v3) (v2 v2))) => 2 1
		1: ((lambda (v1) v1) v1) => 1 0
		1: (cons (lambda (v1) (v1 v1)) (v1 v1)) => 2 1
		1: (cons (v1 v1) (lambda (v1) (v1 v1))) => 2 1
		1: (begin (lambda (v1) v1) (begin v1 (lambda (v1) (v1)))) => 1 0
		1: (lambda (v2) (begin (lambda (v1) v1) (v1 (lambda (v1) v1)))) => 1 1

		1: (let v1 2 v1) => 0 0
		1: (let v1 v1 2) => 1 0
		1: (let v1 v1 v1) => 1 0
		1: (let v1 (v1 v1) (v1 v1)) => 2 1
		1: (let v2 (v1 v1) (v1 v1)) => 4 2
		2: (let v2 (v1 v1) (v1 v2)) => 0 0
		1: (let v2 (let v1 v1 v1) v1) => 2 0
		1: (let v1 (let v2 v1 v1) (let v3 v1 v1)) => 2 0
		1: (let v2 v1 (let v1 v1 (v1 v1))) => 2 0
		1: (let v1 (lambda (v1) v1) (v1 v1)) => 0 0
		1: (begin (let v1 2 v1) v1) => 1 0
		1: (begin (let v1 2 (v1)) (v1)) => 1 1

		0: (lambda (v1) v1) => 0 0
		-1: (lambda (v1) v1) => 0 0
		1000000: (v1000000 v1000001) => 1 1
		1000001: (v1000000 v1000001) => 1 0
	`) {
		v, rest, _ := strings.Cut(line, ": ")
		source, want, ok := strings.Cut(rest, " => ")
		if !ok {
			t.Fatalf("not a line of a table: %s", line)
		}
		n, err := strconv.Atoi(v)
		if err != nil {
			t.Fatal(err)
		}
		counts := numbersOf(want)
		checkUses(t, parsed(t, source), n, counts[0], counts[1])
	}
}

// Expressions that are not Good are gone through as they stand.
func TestUsesOfOdd(t *testing.T) {
	v1 := variableOf(1)
	with := func(x api.Expr, kids ...api.Expr) api.Expr {
		x.Kids = kids
		return x
	}
	for _, c := range []struct {
		e              api.Expr
		v, all, called int
	}{
		{api.Expr{}, 1, 0, 0},
		{api.Expr{}, 0, 0, 0},
		{variableOf(0), 0, 1, 0},
		{call(variableOf(-5), variableOf(-5)), -5, 2, 1},
		{call(variableOf(math.MaxInt)), math.MaxInt, 1, 1},
		{call(variableOf(math.MinInt)), math.MinInt, 1, 1},
		{call(numeral(1)), 0, 0, 0},
		{api.Expr{V: 1}, 1, 0, 0},
		{api.Expr{Kind: 10, V: 1}, 1, 0, 0},
		{with(api.Expr{}, v1, call(v1)), 1, 2, 1},
		{with(api.Expr{Kind: -1}, v1, call(v1)), 1, 2, 1},
		{with(api.Expr{Kind: 10, V: 1, Vars: []int{1}}, v1, call(v1)), 1, 2, 1},
		{with(v1, v1, call(v1)), 1, 3, 1},
		{with(v1, numeral(1), v1), 2, 0, 0},
		{call(with(v1, v1)), 1, 2, 1},
		{with(numeral(1), v1), 1, 1, 0},
		{api.Expr{Kind: api.ExCall}, 0, 0, 0},
		{api.Expr{Kind: api.ExCall, V: 1}, 1, 0, 0},
		{primitive(api.PAdd), 0, 0, 0},
		{primitive(99, v1, v1, v1), 1, 3, 0},
		{api.Expr{Kind: api.ExLet, V: 1}, 1, 0, 0},
		{with(api.Expr{Kind: api.ExLet, V: 1}, v1), 1, 1, 0},
		{with(api.Expr{Kind: api.ExLet, V: 1}, v1, call(v1), call(v1, v1)), 1, 3, 1},
		{with(api.Expr{Kind: api.ExLet, V: 1, Vars: []int{2}}, call(variableOf(2)), call(variableOf(2))), 2, 2, 2},
		{with(api.Expr{Kind: api.ExLambda, Vars: []int{1}}), 1, 0, 0},
		{with(api.Expr{Kind: api.ExLambda, Vars: []int{1}}, call(v1), v1, call(v1)), 1, 2, 1},
		{with(api.Expr{Kind: api.ExLambda, Vars: []int{1, 1}}, call(v1), v1), 1, 1, 0},
		{with(api.Expr{Kind: api.ExLambda, Vars: []int{2, 3, 2, 1}, Rest: true}, call(v1, variableOf(3))), 1, 0, 0},
		{with(api.Expr{Kind: api.ExLambda, V: 1}, call(v1)), 1, 1, 1},
		{with(api.Expr{Kind: api.ExLambda, Rest: true}, call(v1)), 1, 1, 1},
		{with(api.Expr{Kind: api.ExSet, V: 1}, v1, call(v1)), 1, 2, 1},
		{with(api.Expr{Kind: api.ExSeq, V: 1, Vars: []int{1}}, v1, call(v1), v1), 1, 3, 1},
		{with(api.Expr{Kind: api.ExIf}, call(v1)), 1, 1, 1},
	} {
		checkUses(t, c.e, c.v, c.all, c.called)
	}
	for _, e := range []api.Expr{ring(api.ExSeq, 2), ring(api.ExPrim, 1), ring(api.ExVar, 1), ring(api.ExCall, 1), ring(api.ExLambda, 3), ring(api.ExCall, looksAt), doubled(60, v1), doubled(64, call(v1))} {
		checkUses(t, e, 1, 0, 0)
	}
}

// Of an expression of so many there are Uses, also if it is no Good one; of one more there are none. So it is with how deep it is.
func TestUsesOfGreat(t *testing.T) {
	v1 := variableOf(1)
	for _, n := range []int{mostItems, mostItems + 1, looksAt - 1, looksAt} {
		checkUses(t, row(n, v1), 1, 1, 1)
		checkUses(t, row(n, numeral(1), v1, call(v1)), 1, 2, 1)
		wide := row(n, numeral(1))
		wide.Kids[len(wide.Kids)-1] = v1
		checkUses(t, wide, 1, 1, 0)
	}
	for _, n := range []int{looksAt + 1, looksAt + 2, 2 * looksAt} {
		checkUses(t, row(n, v1), 1, 0, 0)
		checkUses(t, row(n, numeral(1), v1, call(v1)), 1, 0, 0)
	}
	checkUses(t, doubled(15, v1), 1, 1<<15, 0)
	checkUses(t, doubled(14, call(v1)), 1, 1<<14, 1<<14)
	checkUses(t, doubled(16, v1), 1, 0, 0)

	for _, deep := range []int{mostItems, looksDeep - 1, looksDeep} {
		checkUses(t, nots(deep-1, v1), 1, 1, 0)
		checkUses(t, nots(deep-2, call(v1, v1)), 1, 2, 1)
		checkUses(t, call(v1, nots(deep-2, numeral(1))), 1, 1, 1)
	}
	for _, deep := range []int{looksDeep + 1, looksDeep + 2, 2 * looksDeep} {
		checkUses(t, nots(deep-1, v1), 1, 0, 0)
		checkUses(t, nots(deep-2, call(v1, v1)), 1, 0, 0)
		checkUses(t, call(v1, nots(deep-2, numeral(1))), 1, 0, 0)
	}
}
