package opt

import (
	"math"
	"slices"
	"strings"
	"testing"

	"pavane/api"
	"pavane/core"
	"pavane/rule"
)

// Each line: an expression => all steps that there are of it | what it becomes.
func TestAllSteps(t *testing.T) {
	for _, line := range lines(`
		5 => - | 5
		(read-byte) => - | (read-byte)
		(+ 1 2) => fold | 3
		((lambda (v1) (+ v1 2)) 1) => beta; copy; fold | 3
		(+ 1 (+ 2 (+ 3 4))) => fold at 1 1; fold at 1; fold | 10
		(if (not (< 1 2)) (read-byte) (+ 1 2)) => not; fold at 0; branch; fold | 3
		(let v1 (let v2 (+ 1 2) (cons v2 v2)) (car v1)) => float; fold at 0; copy | (let v1 (cons 3 3) (car v1))
		(let v1 (begin (read-byte) 5) (cons v1 v1)) => ahead; copy at 1 | (begin (read-byte) (cons 5 5))
		(begin 1 (begin 2 (begin (read-byte) 3))) => drop; drop | (begin (read-byte) 3)
		(cons (let v1 5 v1) (let v2 (read-byte) v2)) => lift 1; copy; lift 2 | (let v2 (read-byte) (cons 5 v2))
		((let v1 (lambda (v2) (write v2)) v1) 7) => lift 1; inline 1; unused; beta; copy | (write 7)
		(let v1 (lambda (v2) (cons v2 v2)) (v1 (read-byte))) => inline 1; unused; beta | (let v3 (read-byte) (cons v3 v3))
		(let v1 (lambda (v2) v2) (v1 (v1 5))) => - | (let v1 (lambda (v2) v2) (v1 (v1 5)))
		(lambda (v9) (let v1 (+ v9 1) (cons (+ v9 1) (+ v9 1)))) => again 1 at 0; again 1 at 0 | (lambda (v9) (let v1 (+ v9 1) (cons v1 v1)))
		(lambda (v1) (if v1 (if v1 2 3) (if v1 4 5))) => known 1 at 0; known 1 no at 0 | (lambda (v1) (if v1 2 5))
		(let v1 (read-byte) (if v1 (if (not v1) 2 (if v1 3 4)) 5)) => known 1 at 1; not at 1 1; known 1 at 1 | (let v1 (read-byte) (if v1 3 5))
		((lambda (v1 v2) (if v1 (v2 v1) 0)) #t (lambda (v3) (cons v3 v3))) => beta; copy; inline 1; unused; branch; beta; copy | (cons #t #t)
		(call/cc (lambda (v1) (begin (lambda (v2) v1) (v1 (+ 1 2))))) => drop at 0 0; fold at 0 0 1 | (call/cc (lambda (v1) (v1 3)))
		(+ (quotient 1 0) (+ 1 2)) => fold at 1 | (+ (quotient 1 0) 3)
	`) {
		source, rest, _ := strings.Cut(line, " => ")
		steps, became, ok := strings.Cut(rest, " | ")
		if !ok {
			t.Fatalf("not a line of a table: %s", line)
		}
		e, want := parsed(t, source), stepsOf(steps)
		for n := range len(want) + 1 {
			checkSteps(t, e, n, want[:n])
		}
		for _, n := range []int{len(want) + 1, len(want) + 2, most - 1, most, most + 1, math.MaxInt} {
			if got := checkSteps(t, e, n, want); !exactly(got, parsed(t, became)) {
				t.Errorf("Optimize of %s, %d: %s, want %s", source, n, text(got), became)
			}
		}
		for _, n := range []int{0, -1, -most, math.MinInt} {
			checkSteps(t, e, n, nil)
		}
	}
}

// There are never more than 200 steps, also where there are more, or more are asked for.
func TestMostSteps(t *testing.T) {
	for _, c := range []struct{ there, asked, told int }{
		{most - 1, most - 2, most - 2}, {most - 1, most - 1, most - 1}, {most - 1, most, most - 1}, {most - 1, most + 1, most - 1},
		{most, most - 1, most - 1}, {most, most, most}, {most, most + 1, most}, {most, math.MaxInt, most},
		{most + 1, most - 1, most - 1}, {most + 1, most, most}, {most + 1, most + 1, most}, {most + 1, most + 2, most}, {most + 1, math.MaxInt, most},
		{most + 1, 1, 1}, {most + 1, 0, 0}, {most + 1, -1, 0}, {most + 1, math.MinInt, 0},
	} {
		e := begins(c.there, primitive(api.PRead))
		want := slices.Repeat([]rule.Step{{Rule: rule.Drop}}, c.told)
		if l := Steps(e, c.asked); !exactlySteps(l, want) {
			t.Errorf("Steps of %d, %d: %s", c.there, c.asked, stepsText(l))
		}
		if c.asked < most+2 {
			continue
		}
		if got, left := checkSteps(t, e, c.asked, want), begins(c.there-most, primitive(api.PRead)); !exactly(got, left) {
			t.Errorf("Optimize of %d, %d: %s", c.there, c.asked, text(got))
		}
	}
}

// An expression as great as may be, and as deep, in which rules go at the far end alone.
func TestGreat(t *testing.T) {
	deep := nots(mostItems-3, parsed(t, "(+ 1 2)"))
	path := make([]int, mostItems-3)
	want := make([]rule.Step, 7)
	for i := range want {
		want[i] = rule.Step{Rule: rule.Fold, Path: path[i:]}
	}
	checkSteps(t, deep, 7, want)
	checkNext(t, row(mostItems, primitive(api.PRead)), nil)
	wide := row(mostItems, primitive(api.PRead))
	wide.Kids = append(wide.Kids[:mostItems-4], parsed(t, "(+ 1 2)"))
	checkNext(t, wide, []rule.Step{{Rule: rule.Fold, Path: []int{mostItems - 4}}})
}

// Expressions as great as may be, in each place of which but one a rule asks for what is all through the rest, or not there at all: they are no long work.
func TestGreatInVain(t *testing.T) {
	read, fold := primitive(api.PRead), parsed(t, "(+ 1 2)")
	used, nots, ifs := fold, primitive(api.PCons, variableOf(1600), fold), fold
	var vars []int
	for v := 1600; v > 0; v-- {
		nots = bind(v, primitive(api.PNot, variableOf(v-1)), nots)
		ifs = choice(variableOf(v), read, ifs)
		vars = append(vars, v)
		if v <= 800 {
			used = bind(v, lambda(false, nil, read), seq(primitive(api.PWrite, variableOf(v)), used))
		}
	}
	nots = bind(2000, read, lambda(false, []int{3000}, core.Swap(nots, 0, variableOf(2000))))
	for _, c := range []struct {
		e    api.Expr
		path []int
	}{
		{used, slices.Repeat([]int{1}, 1600)},
		{nots, slices.Concat([]int{1, 0}, slices.Repeat([]int{1}, 1601))},
		{lambda(false, vars, ifs), slices.Concat([]int{0}, slices.Repeat([]int{2}, 1600))},
	} {
		if !rule.May(c.e) {
			t.Fatalf("not May: %s", text(c.e))
		}
		checkSteps(t, c.e, 5, []rule.Step{{Rule: rule.Fold, Path: c.path}})
	}
}
