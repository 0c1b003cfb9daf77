package rule

import (
	"math"
	"slices"
	"strings"
	"testing"

	"pavane/api"
	"pavane/core"
)

// checkApply holds what Apply makes of each line's expression, by the line's step at the line's path, against what stands behind its =>: an expression, or an error.
func checkApply(t *testing.T, table string) {
	t.Helper()
	for _, line := range lines(table) {
		how, rest, ok := strings.Cut(strings.TrimSpace(line), ": ")
		source, want, found := strings.Cut(rest, " => ")
		name, places, at := strings.Cut(how, " at ")
		if !ok || !found {
			t.Fatalf("not a line of a table: %s", line)
		}
		s, e := stepOf(name), parsed(t, source)
		if at {
			for word := range strings.FieldsSeq(places) {
				s.Path = append(s.Path, number("v"+word))
			}
		}
		got, err := Apply(e, s)
		if strings.HasPrefix(want, "error ") {
			if want != "error "+err.Error() || !isZero(got) {
				t.Errorf("%s: %s, %v", line, text(got), err)
			}
			continue
		}
		if err != api.OK || !exactly(got, parsed(t, want)) {
			t.Errorf("%s: %s, %v", line, text(got), err)
			continue
		}
		meansTheSame(t, e, got, s)
	}
}

func TestApply(t *testing.T) {
	checkApply(t, `
		fold: (+ 1 2) => 3
		fold at 0: (write (+ 1 2)) => (write 3)
		fold at 1 0: (begin 1 (write (+ 1 2))) => (begin 1 (write 3))
		fold at 0 1 2: (lambda (v1) (begin 1 (if v1 2 (+ 1 2)))) => (lambda (v1) (begin 1 (if v1 2 3)))
		beta: ((lambda (v1) v1) 5) => (let v1 5 v1)
		copy: (let v1 5 v1) => 5
		branch at 1: (let v1 (read-byte) (if #t v1 2)) => (let v1 (read-byte) v1)
		drop at 1: (let v1 (read-byte) (begin v1 2)) => (let v1 (read-byte) 2)
		unused at 1: (let v1 (read-byte) (let v2 v1 3)) => (let v1 (read-byte) 3)
		copy at 1: (let v1 (read-byte) (let v2 v1 (cons v2 v2))) => (let v1 (read-byte) (cons v1 v1))
		not at 1: (let v1 (read-byte) (if (not v1) 2 3)) => (let v1 (read-byte) (if v1 3 2))
		float at 1: (begin 1 (let v1 (let v2 3 v2) v1)) => (begin 1 (let v2 3 (let v1 v2 v1)))
		ahead at 0: (begin (let v1 (begin 2 3) v1) 4) => (begin (begin 2 (let v1 3 v1)) 4)
		known 2 no at 1: (let v1 (read-byte) (if v1 2 (cons (if v1 3 4) (if v1 5 6)))) => (let v1 (read-byte) (if v1 2 (cons (if v1 3 4) 6)))
		again 1 at 1: (let v1 (read-byte) (let v2 (eq? v1 v1) (cons v2 (eq? v1 v1)))) => (let v1 (read-byte) (let v2 (eq? v1 v1) (cons v2 v2)))
		lift 2 at 1: (let v1 (read-byte) (cons v1 (let v2 (read-byte) v2))) => (let v1 (read-byte) (let v2 (read-byte) (cons v1 v2)))
		inline 1 at 1: (let v1 (read-byte) (let v2 (lambda (v3) (cons v3 v1)) (v2 4))) => (let v1 (read-byte) (let v2 (lambda (v3) (cons v3 v1)) ((lambda (v4) (cons v4 v1)) 4)))
		inline 1 at 1: (let v9 (read-byte) (let v2 (lambda (v3 . v7) (let v4 v7 v9)) (v2 4))) => (let v9 (read-byte) (let v2 (lambda (v3 . v7) (let v4 v7 v9)) ((lambda (v10 . v11) (let v12 v11 v9)) 4)))
		inline 1 at 0: (begin (let v1 (lambda (v2) v2) (v1 5)) (lambda v33 v33)) => (begin (let v1 (lambda (v2) v2) ((lambda (v34) v34) 5)) (lambda v33 v33))
		inline 1 at 0: (begin (let v1 (lambda (v2) v2) (v1 5)) (lambda (v33 v9) v33)) => (begin (let v1 (lambda (v2) v2) ((lambda (v34) v34) 5)) (lambda (v33 v9) v33))
		inline 1: (let v1 (lambda () 2) (v1)) => (let v1 (lambda () 2) ((lambda () 2)))

		fold: v1 => error arg
		fold: (+ 1) => error arg
		fold: (let v1 1 (set! v1 2)) => error arg
		fold at 0: (lambda (v1) v2) => error arg
		fold at 7: (begin (set! v1 2) (+ 1 2)) => error arg
		fold at 1: (let v1 1 (begin (set! v1 2) (+ 1 2))) => error arg
		fold at 1 1: (let v1 1 (begin (set! v1 2) (+ 1 2))) => error arg

		fold: (+ 1 "a") => error proof
		fold: (begin (+ 1 2) 3) => error proof
		fold at 1: (begin (+ 1 2) 3) => error proof
		fold at 2: (begin (+ 1 2) 3) => error proof
		fold at -1: (begin (+ 1 2) 3) => error proof
		fold at 0 0 0: (begin (+ 1 2) 3) => error proof
		fold at 9223372036854775807: (begin (+ 1 2) 3) => error proof
		fold at -9223372036854775808: (begin (+ 1 2) 3) => error proof
		copy at 0: (lambda () (let v1 '(1) v1)) => error proof
		inline 2: (let v1 (lambda () 2) (v1)) => error proof
		inline 0: (let v1 (lambda () 2) (v1)) => error proof
		lift: (not (let v1 2 v1)) => error proof
		known: (lambda (v1) (if v1 (if v1 2 3) 4)) => error proof
	`)
	e := parsed(t, "(begin (+ 1 2) 3)")
	for _, rule := range []int{math.MinInt, -1, 0, 14, 1<<32 + 1, math.MaxInt} {
		for _, path := range [][]int{nil, {0}, {0, 0}, {1}, {2}} {
			if got, err := Apply(e, Step{Rule: rule, Path: path, N: 1}); err != api.ErrProof || !isZero(got) {
				t.Errorf("Apply of rule %d: %s, %v", rule, text(got), err)
			}
		}
	}
	for _, path := range [][]int{nil, {}} {
		if got, err := Apply(parsed(t, "(+ 1 2)"), Step{Rule: Fold, Path: path}); err != api.OK || !exactly(got, numeral(3)) {
			t.Errorf("Apply at an empty path: %s, %v", text(got), err)
		}
	}
}

// Each step that fits, in each place of each Kind.
func TestApplyInAllPlaces(t *testing.T) {
	for how, source := range fitting {
		x := closed(parsed(t, source))
		s := stepOf(how)
		s.Path = []int{0}
		want, err := Apply(x, s)
		if err != api.OK {
			t.Fatalf("Apply of %s: %v", text(x), err)
		}
		for _, around := range []string{
			"(if v40 2 3)", "(if 2 v40 3)", "(if 2 3 v40)", "(lambda () v40)", "(lambda v30 v40)", "(v40)", "(1 2 v40 3)", "(car v40)", "(cons v40 2)", "(cons 2 v40)",
			"(let v30 v40 2)", "(let v30 2 v40)", "(begin v40 2)", "(begin 2 v40)", "(let v30 (lambda (v31) v31) (begin (v30 v30) (if v30 (cons 2 (begin (read-byte) v40)) 3)))",
		} {
			outer := parsed(t, around)
			place := find(outer, 40)
			e, _ := core.Put(outer, place, x)
			s.Path = append(slices.Clone(place), 0)
			got, err := Apply(e, s)
			wanted, _ := core.Put(outer, place, want)
			if err != api.OK || !core.Alike(got, wanted) {
				t.Errorf("Apply of %s in %s: %s, %v", how, around, text(got), err)
			}
			meansTheSame(t, e, got, s)
		}
	}
}

// find is the path of the ExVar of that number, nil if there is none.
func find(e api.Expr, v int) []int {
	for i, kid := range e.Kids {
		if kid.Kind == api.ExVar && kid.V == v {
			return []int{i}
		}
		if path := find(kid, v); path != nil {
			return append([]int{i}, path...)
		}
	}
	return nil
}

// Expressions that are as great as may be, and what would be too great.
func TestApplyOfMuch(t *testing.T) {
	long := func(n int, ahead ...api.Expr) api.Expr { return call(append(ahead, row(n).Kids...)...) }
	size := func(e api.Expr, want int) api.Expr {
		t.Helper()
		if core.Size(e) != want {
			t.Fatalf("%d expressions, not %d", core.Size(e), want)
		}
		return e
	}
	inlined := func(n int) api.Expr {
		return bind(1, parsed(t, "(lambda (v2) (begin v2 v2))"), long(n-8, call(variableOf(1), numeral(7))))
	}
	// Three variables make one expression more, inlining a lambda of four expressions three more.
	beta := func(n int) api.Expr {
		return long(n-6, call(lambda(false, []int{1, 2, 3}, numeral(1)), numeral(2), numeral(3), numeral(4)))
	}
	for _, c := range []struct {
		e    api.Expr
		s    Step
		size int
		err  api.Errno
	}{
		{size(inlined(mostItems-3), mostItems-3), Step{Rule: Inline, N: 1}, mostItems, api.OK},
		{size(inlined(mostItems-2), mostItems-2), Step{Rule: Inline, N: 1}, 0, api.ErrLong},
		{size(inlined(mostItems), mostItems), Step{Rule: Inline, N: 1}, 0, api.ErrLong},
		{size(inlined(mostItems), mostItems), Step{Rule: Inline, N: 2}, 0, api.ErrProof},
		{size(inlined(mostItems+1), mostItems+1), Step{Rule: Inline, N: 1}, 0, api.ErrArg},
		{size(inlined(mostItems+1), mostItems+1), Step{Rule: Inline, N: 2}, 0, api.ErrArg},
		{size(beta(mostItems-1), mostItems-1), Step{Rule: Beta, Path: []int{0}}, mostItems, api.OK},
		{size(beta(mostItems), mostItems), Step{Rule: Beta, Path: []int{0}}, 0, api.ErrLong},
		{size(beta(mostItems), mostItems), Step{Rule: Beta}, 0, api.ErrProof},
		{size(beta(mostItems), mostItems), Step{Rule: Beta, Path: []int{mostItems}}, 0, api.ErrProof},
		{size(beta(mostItems+1), mostItems+1), Step{Rule: Beta, Path: []int{0}}, 0, api.ErrArg},
		{size(bind(1, parsed(t, "(let v2 3 v2)"), long(mostItems-5, variableOf(1))), mostItems), Step{Rule: Float}, mostItems, api.OK},
		{size(chain(mostItems, parsed(t, "(let v1 2 v1)")), mostItems), Step{Rule: Lift, N: 1, Path: zeros(mostItems - 4)}, mostItems, api.OK},
		{size(chain(mostItems, parsed(t, "(let v1 2 v1)")), mostItems), Step{Rule: Copy, Path: zeros(mostItems - 3)}, mostItems - 2, api.OK},
		{size(chain(mostItems, numeral(1)), mostItems), Step{Rule: Fold, Path: zeros(mostItems - 2)}, mostItems - 1, api.OK},
		{size(chain(mostItems, numeral(1)), mostItems), Step{Rule: Fold, Path: zeros(mostItems - 1)}, 0, api.ErrProof},
		{size(chain(mostItems, numeral(1)), mostItems), Step{Rule: Fold, Path: zeros(mostItems)}, 0, api.ErrProof},
		{size(chain(mostItems, numeral(1)), mostItems), Step{Rule: Fold, Path: zeros(1000000)}, 0, api.ErrProof},
	} {
		got, err := Apply(c.e, c.s)
		if err != c.err || core.Size(got) != c.size && err == api.OK || err != api.OK && !isZero(got) {
			t.Errorf("Apply of %s by %s: %d expressions, %v, want %d, %v", text(c.e), stepText(c.s), core.Size(got), err, c.size, c.err)
		}
		if err == api.OK {
			meansTheSame(t, c.e, got, c.s)
		}
	}
}

func zeros(n int) []int { return make([]int, n) }

// Variables at the end of their numbers.
func TestApplyOfGreatVariables(t *testing.T) {
	checkApply(t, `
		inline 1: (let v999999 (lambda (v2) v2) (v999999 5)) => (let v999999 (lambda (v2) v2) ((lambda (v1000000) v1000000) 5))
		inline 1: (let v2 (lambda (v999999) v999999) (v2 5)) => (let v2 (lambda (v999999) v999999) ((lambda (v1000000) v1000000) 5))
		inline 1: (let v999999 (lambda (v2 . v3) v2) (v999999 5)) => error long
		inline 1: (let v1000000 (lambda (v2) v2) (v1000000 5)) => error long
		inline 1: (let v1000000 (lambda () 2) (v1000000)) => (let v1000000 (lambda () 2) ((lambda () 2)))
		inline 2: (let v1000000 (lambda (v2) v2) (v1000000 5)) => error proof
		copy: (let v1000000 1 v1000000) => 1
		inline 1: (let v1 (lambda (v1000001) 2) (v1 5)) => error arg
	`)
}

// What is not May is told ahead of all else.
func TestApplyOfOdd(t *testing.T) {
	for _, e := range append(odd(), ring(api.ExSeq, 0, 100000), doubled(60, numeral(1))) {
		for rule := range 15 {
			for _, path := range [][]int{nil, {0}, {0, 0}, {-1}} {
				if got, err := Apply(e, Step{Rule: rule, Path: path, N: 1}); err != api.ErrArg || !isZero(got) {
					t.Errorf("Apply of %s by %d: %s, %v", text(e), rule, text(got), err)
				}
			}
		}
	}
}
