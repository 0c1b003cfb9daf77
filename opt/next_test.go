package opt

import (
	"slices"
	"strings"
	"testing"

	"pavane/api"
	"pavane/core"
	"pavane/proof"
	"pavane/rule"
)

// checkTable holds Next of each line's expression against the step behind its =>; - is none.
func checkTable(t *testing.T, table string) {
	t.Helper()
	for _, line := range lines(table) {
		source, want, ok := strings.Cut(line, " => ")
		if !ok {
			t.Fatalf("not a line of a table: %s", line)
		}
		e := parsed(t, source)
		if !rule.May(e) {
			t.Fatalf("not May: %s", source)
		}
		checkNext(t, e, stepsOf(want))
		s, _, found := other(e)
		if found != (want != "-") || found && !exactlySteps([]rule.Step{s}, stepsOf(want)) {
			t.Errorf("the other way says %s of %s", stepsText([]rule.Step{s}), source)
		}
	}
}

func TestNoRuleGoes(t *testing.T) {
	checkTable(t, `
		5 => -
		'(1 2) => -
		(lambda (v1) v1) => -
		(read-byte) => -
		(write 5) => -
		(car 5) => -
		(cons 1 2) => -
		(+ 1 "a") => -
		(quotient 1 0) => -
		(not '(1)) => -
		(procedure? 1) => -
		(if (read-byte) 1 2) => -
		(if (write 1) (not (read-byte)) 2) => -
		(begin (read-byte) 2) => -
		(begin ((lambda (v1 . v2) v1) 3) 2) => -
		((lambda (v1) v1)) => -
		((lambda (v1) v1) 1 2) => -
		((lambda (v1 . v2) v1) 1 2) => -
		(let v1 (read-byte) v1) => -
		(let v1 (read-byte) 7) => -
		(let v1 '(1) v1) => -
		(cons (read-byte) (let v1 (read-byte) v1)) => -
		((lambda (v2) v2) (let v1 (read-byte) v1) 3) => -
		(lambda (v1) (if v1 (car v1) (cdr v1))) => -
	`)
}

// Each rule where it is the only one, and near to it where it is none.
func TestEachRule(t *testing.T) {
	checkTable(t, `
		(+ 1 2) => fold
		(string-append "a" "b") => fold
		(not 5) => fold
		(if #t (read-byte) 2) => branch
		(if #f (read-byte) 2) => branch
		(if '(1) 2 3) => branch
		(if (not (read-byte)) 2 3) => not
		(if (not (not (read-byte))) 2 3) => not
		((lambda () (read-byte))) => beta
		((lambda (v1) v1) (read-byte)) => beta
		((lambda (v1 v2) v1) (read-byte) (read-byte)) => beta
		(let v1 5 (cons v1 v1)) => copy
		(lambda (v9) (let v1 v9 (cons v1 v1))) => copy at 0
		(begin 1 (read-byte)) => drop
		(begin (lambda (v1) (read-byte)) 2) => drop
		(let v1 (cons 1 2) (read-byte)) => unused
		(let v1 '(1) (read-byte)) => unused
		(let v1 (lambda (v2) (v2 v2)) 5) => unused
		(let v1 (let v2 (read-byte) v2) v1) => float
		(let v1 (begin (read-byte) (write 1)) v1) => ahead
		(cons (let v1 (read-byte) v1) 2) => lift 1
		(cons 2 (let v1 (read-byte) v1)) => lift 2
		((let v1 (read-byte) v1)) => lift 1
		((let v1 (read-byte) v1) 2 3) => lift 1
		(lambda (v9) (v9 v9 "a" (let v1 (read-byte) v1) (read-byte))) => lift 4 at 0
		(let v1 (lambda (v2) v2) (v1 5)) => inline 1
		(lambda (v9) (let v1 (= v9 1) (cons v1 (= v9 1)))) => again 1 at 0
		(let v1 (void) (cons v1 (void))) => again 1
		(lambda (v1) (if v1 (if v1 (read-byte) 3) 4)) => known 1 at 0
		(lambda (v1) (if v1 4 (if v1 (read-byte) 3))) => known 1 no at 0
	`)
}

// The first place counts, whichever rules go in the others: outer ones first, and from the left.
func TestPlaces(t *testing.T) {
	checkTable(t, `
		(cons (+ 1 2) 3) => fold at 0
		(cons 3 (+ 1 2)) => fold at 1
		(cons (+ 1 2) (+ 3 4)) => fold at 0
		(cons (car 5) (+ 3 4)) => fold at 1
		(cons (cons (car 5) (+ 1 2)) (+ 3 4)) => fold at 0 1
		(cons (cons 5 (cons 6 (+ 1 2))) (+ 3 4)) => fold at 0 1 1
		(+ (+ 1 2) 3) => fold at 0
		(+ (+ 1 (+ 2 3)) (+ 3 4)) => fold at 0 1
		(begin 5 (+ 1 2)) => drop
		(begin (lambda (v1) (+ 1 2)) (+ 3 4)) => drop
		(begin (begin 1 2) 3) => drop
		(begin (begin (read-byte) 2) (begin 3 4)) => drop at 1
		(if #t (+ 1 2) (begin 3 4)) => branch
		(if (not (+ 1 2)) 3 4) => not
		(if (read-byte) (+ 1 2) (+ 3 4)) => fold at 1
		(if (+ 1 2) (+ 3 4) (+ 5 6)) => fold at 0
		((lambda (v1) (+ 1 2)) (+ 3 4)) => beta
		((lambda (v1) (+ 1 2)) (+ 3 4) (+ 5 6)) => fold at 0 0
		((lambda (v1 . v2) v1) (+ 3 4) (+ 5 6)) => fold at 1
		((read-byte) 1 2 (if 1 2 3) (+ 1 2)) => branch at 3
		(let v1 (let v2 (+ 1 2) v2) (cons v1 (+ 3 4))) => float
		(let v1 (read-byte) (cons v1 (+ 3 4))) => fold at 1 1
		(let v1 (cons (read-byte) (+ 1 2)) (cons v1 (+ 3 4))) => fold at 0 1
		(lambda (v1) (lambda (v2 v3) (lambda (v4 . v5) (begin 5 v1)))) => drop at 0 0 0
		(cons (read-byte) (let v1 (let v2 5 v2) (+ v1 v1))) => float at 1
		(cons (begin (read-byte) (begin 1 (+ 1 2))) (let v1 5 v1)) => drop at 0 1
	`)
}

// Where two rules go at one place the first one in the chapter's order counts.
func TestTwoRulesAtOnePlace(t *testing.T) {
	checkTable(t, `
		(let v1 5 7) => copy
		(let v1 5 (read-byte)) => copy
		(lambda (v9) (let v1 v9 7)) => copy at 0
		(let v1 (let v2 (box 1) v2) 7) => unused
		(let v1 (let v2 (read-byte) v2) 7) => float
		(let v1 (begin (cons 1 2) (box 3)) 7) => unused
		(let v1 (begin (read-byte) 3) 7) => ahead
		(lambda (v9) (let v1 (not v9) (cons 1 (not v9)))) => unused at 0
		(lambda (v9) (let v1 (= v9 2) (cons 1 (= v9 2)))) => again 1 at 0
		(let v1 (void) (cons (void) (void))) => unused
		(lambda (v1) (if v1 (if v1 2 3) (if v1 4 5))) => known 1 at 0
		(lambda (v1) (if v1 (write v1) (if v1 4 5))) => known 1 no at 0
		(lambda (v1) (if v1 (if v1 2 (if v1 6 7)) 8)) => known 1 at 0
		(lambda (v1) (if v1 (cons (if v1 2 3) (if v1 4 5)) 8)) => known 1 at 0
		(lambda (v9) (let v1 (not v9) (cons v1 (cons (not v9) (not v9))))) => again 1 at 0
	`)
}

func TestLiftOfTheLeast(t *testing.T) {
	checkTable(t, `
		(cons (let v1 (read-byte) v1) (let v2 (read-byte) v2)) => lift 1
		((let v1 (read-byte) v1) (let v2 (read-byte) v2) (let v3 (read-byte) v3)) => lift 1
		(lambda (v9) (v9 (let v1 (read-byte) v1) (let v2 (read-byte) v2))) => lift 2 at 0
		(lambda (v9) (v9 4 (let v1 (read-byte) v1) 5 (let v2 (read-byte) v2))) => lift 3 at 0
		(lambda (v9) (v9 (read-byte) (let v1 (read-byte) v1) (let v2 (read-byte) v2))) => -
		(lambda (v9) (v9 '(1) (let v1 (read-byte) v1))) => -
		(lambda (v9) (v9 (lambda (v8) v8) (let v1 (read-byte) v1))) => -
		(lambda (v9) (v9 (let v1 (read-byte) v1) (+ 1 2))) => lift 2 at 0
	`)
	wide := call(numeral(7))
	for range 300 {
		wide.Kids = append(wide.Kids, numeral(7))
	}
	for v := range 3 {
		wide.Kids = append(wide.Kids, api.Expr{Kind: api.ExLet, V: v + 1, Kids: []api.Expr{primitive(api.PRead), variableOf(v + 1)}})
	}
	checkNext(t, wide, stepsOf("lift 302"))
	wide.Kids[300] = primitive(api.PRead)
	checkNext(t, wide, nil)
}

// Inline goes where what is bound is used once, and is called there; not where it is a value, nor where it is called twice.
func TestInlineOfOneUse(t *testing.T) {
	checkTable(t, `
		(let v1 (lambda (v2) v2) (v1 5)) => inline 1
		(let v1 (lambda () 5) (v1)) => inline 1
		(let v1 (lambda (v2 . v3) v2) (v1 5 6)) => inline 1
		(let v1 (lambda (v2) v2) (v1 5 6 7)) => inline 1
		(let v1 (lambda (v2) v2) (lambda (v3) (cons 1 (v1 v3)))) => inline 1
		(let v1 (lambda (v2) v2) (cons (lambda (v3) (v3 v3)) (v1 5))) => inline 1
		(let v1 (lambda (v2) v2) (if (v1 5) (read-byte) 7)) => inline 1
		(let v1 (lambda (v2) (lambda (v3) v2)) (v1 (lambda (v4) v4))) => inline 1
		(let v1 (lambda (v2) v2) v1) => -
		(let v1 (lambda (v2) v2) (cons v1 v1)) => -
		(let v1 (lambda (v2) v2) (v1 v1)) => -
		(let v1 (lambda (v2) v2) ((lambda (v3 . v4) v3) v1)) => -
		(let v1 (lambda (v2) v2) (cons (v1 5) v1)) => -
		(let v1 (lambda (v2) v2) (cons v1 (v1 5))) => -
		(let v1 (lambda (v2) v2) (cons (v1 5) (v1 6))) => -
		(let v1 (lambda (v2) v2) (if (read-byte) (v1 5) (v1 6))) => -
		(let v1 (lambda (v2) v2) (v1 (v1 5))) => -
		(let v1 (lambda (v2) v2) ((v1 5) v1)) => -
		(let v1 (lambda (v2) v2) (lambda (v3) (v3 v1))) => -
		(let v1 (lambda (v2) v2) 7) => unused
		(let v1 (call/cc (lambda (v2) v2)) (v1 5)) => -
		(lambda (v9) (let v1 (car v9) (v1 5))) => -
		(let v1 (lambda (v2) (lambda (v3) (v2 v3))) (let v4 (lambda (v5) (v1 v5)) (v4 6))) => inline 1
		(let v1 (lambda (v2) v2) (let v4 (lambda (v5) (v1 v5)) (v4 (v1 6)))) => inline 1 at 1
	`)
}

func TestAgain(t *testing.T) {
	checkTable(t, `
		(lambda (v9) (let v1 (+ v9 1) (cons v1 (+ v9 1)))) => again 1 at 0
		(lambda (v9) (let v1 (+ v9 1) (+ v1 (+ v9 1)))) => again 1 at 0
		(lambda (v9) (let v1 (+ v9 1) (lambda (v2) (cons v1 (+ v9 1))))) => again 1 at 0
		(lambda (v9) (let v1 (+ v9 1) (cons v1 (+ 1 v9)))) => -
		(lambda (v9) (let v1 (+ v9 1) (cons v1 (+ v9 2)))) => -
		(lambda (v9) (let v1 (+ v9 1) (cons v1 (- v9 1)))) => -
		(lambda (v9) (let v1 (+ v9 1) (cons v1 (+ v9 "1")))) => -
		(lambda (v9 v8) (let v1 (+ v9 1) (cons v1 (+ v8 1)))) => -
		(lambda (v9) (let v1 (car v9) (cons v1 (car v9)))) => -
		(lambda (v9) (let v1 (cons v9 1) (cons v1 (cons v9 1)))) => -
		(lambda (v9) (let v1 (string-append v9 "a") (cons v1 (string-append v9 "a")))) => -
		(lambda (v9) (let v1 (+ (car v9) 1) (cons v1 (+ (car v9) 1)))) => -
		(lambda (v9) (let v1 (eq? v9 '(1)) (cons v1 (eq? v9 '(1))))) => -
		(lambda (v9) (let v1 (eq? v9 "a") (cons v1 (eq? v9 "a")))) => again 1 at 0
		(lambda (v9) (cons (+ v9 1) (let v1 (+ v9 1) v1))) => -
		(lambda (v9) (begin (write (+ v9 1)) (let v1 (+ v9 1) v1))) => -
		(lambda (v9) (cons (let v1 (+ v9 1) v1) (+ v9 1))) => lift 1 at 0
		(lambda (v9) (if (read-byte) (let v1 (+ v9 1) v1) (+ v9 1))) => -
		(lambda (v9) (if (+ v9 1) (let v1 (+ v9 1) (write v1)) (+ v9 1))) => -
		(lambda (v9) (let v1 (+ v9 1) (let v2 (+ v9 1) (cons v1 v2)))) => again 1 at 0
		(lambda (v9) (let v1 (+ 1 "a") (cons v1 (+ 1 "a")))) => again 1 at 0
		(lambda (v9) (let v1 (quotient v9 0) (cons v1 (quotient v9 0)))) => again 1 at 0
		(lambda (v9) (let v1 (+ v9 1) (+ v9 1))) => again 1 at 0
	`)
}

func TestKnown(t *testing.T) {
	checkTable(t, `
		(lambda (v1) (if v1 (if v1 2 3) 4)) => known 1 at 0
		(lambda (v1) (if v1 (lambda (v2) (if v1 2 3)) 4)) => known 1 at 0
		(lambda (v1) (if v1 2 (if v1 3 4))) => known 1 no at 0
		(lambda (v1) (if v1 2 (lambda (v2) (if v1 2 3)))) => known 1 no at 0
		(lambda (v1) (if v1 (if v1 2 3) (if v1 4 5))) => known 1 at 0
		(lambda (v1 v2) (if v1 (if v2 2 3) (if v2 4 5))) => -
		(lambda (v1 v2) (if v1 (if v2 2 3) (if v2 4 (if v1 5 6)))) => known 1 no at 0
		(lambda (v1 v2) (if v1 (if v2 (if v1 5 6) 3) 7)) => known 1 at 0
		(lambda (v1 v2) (if v1 (if v2 (if v2 5 6) 3) 7)) => known 1 at 0 1
		(lambda (v1) (cons (if v1 2 3) (if v1 4 5))) => -
		(lambda (v1) (if (car v1) (if (car v1) 2 3) 4)) => -
		(lambda (v1) (if (if v1 2 3) (if v1 4 5) 6)) => -
		(lambda (v1) (if v1 (write v1) (not v1))) => -
		(let v1 (read-byte) (if (let v2 v1 v2) (if v1 2 3) 4)) => copy at 1 0
	`)
}

// alone are expressions in which one step goes at one place, one for each rule, in the chapter's order.
const alone = `
	(+ 1 2) => fold
	(if 1 (read-byte) 2) => branch
	(if (not (read-byte)) 2 3) => not
	((lambda () (read-byte))) => beta
	(let v1 5 (cons v1 (read-byte))) => copy
	(begin 1 (read-byte)) => drop
	(let v1 (cons 1 2) (read-byte)) => unused
	(let v1 (let v2 (read-byte) v2) v1) => float
	(let v1 (begin (read-byte) (write 1)) v1) => ahead
	(cons (let v1 (read-byte) v1) 2) => lift 1
	(let v1 (lambda (v2) (read-byte)) (v1 5)) => inline 1
	(let v1 (void) (cons (void) (cons v1 (read-byte)))) => again 1
	(lambda (v1) (if v1 (if v1 (read-byte) 3) 4)) => known 1 at 0
	(lambda (v1) (if v1 4 (if v1 (read-byte) 3))) => known 1 no at 0
`

// Of two rules in two places the first place counts, not the first rule; of an outer and an inner one the outer one.
func TestPairsOfRules(t *testing.T) {
	at := func(i int, l []rule.Step) []rule.Step {
		for k := range l {
			l[k].Path = append([]int{i}, l[k].Path...)
		}
		return l
	}
	for _, one := range lines(alone) {
		for _, two := range lines(alone) {
			first, how, _ := strings.Cut(one, " => ")
			second, howToo, _ := strings.Cut(two, " => ")
			a, b := parsed(t, first), parsed(t, second)
			b, _ = core.Fresh(b, 100)
			read := primitive(api.PRead)
			checkNext(t, api.Expr{Kind: api.ExIf, Kids: []api.Expr{read, a, b}}, at(1, stepsOf(how)))
			checkNext(t, api.Expr{Kind: api.ExIf, Kids: []api.Expr{read, read, b}}, at(2, stepsOf(howToo)))
			checkNext(t, api.Expr{Kind: api.ExLambda, Kids: []api.Expr{a}}, at(0, stepsOf(how)))
			if around, ok := readerOut(a, b); ok {
				checkNext(t, around, stepsOf(how))
			}
		}
	}
}

// readerOut is e with x in place of the first (read-byte) in it.
func readerOut(e, x api.Expr) (api.Expr, bool) {
	for _, path := range everyPlace(e) {
		if in, _ := core.At(e, path); in.P == api.PRead {
			return core.Put(e, path, x)
		}
	}
	return api.Expr{}, false
}

// tooLong is a step whose Here holds, and whose Apply has an error: what it makes of all of e is not Good.
func tooLong(t *testing.T, e api.Expr, s rule.Step) {
	t.Helper()
	x, _ := core.At(e, s.Path)
	if _, ok := rule.Here(x, s, 1+slices.Max(core.Bound(e))); !ok {
		t.Fatalf("Here of %s says no", text(x))
	}
	if _, err := rule.Apply(e, s); err != api.ErrLong {
		t.Fatalf("Apply to %s: %v", text(e), err)
	}
}

// A step whose Apply has an error is none: what goes behind it counts, and it itself once there is room for what it makes.
func TestApplyHasAnError(t *testing.T) {
	fold := parsed(t, "(+ 1 2)")
	for _, c := range []struct {
		source, step string
		more         int
	}{
		{"((lambda (v1 v2 v3) (read-byte)) 1 2 3)", "beta", 1},
		{"((lambda (v1 v2 v3 v4 v5) (read-byte)) 1 2 3 4 5)", "beta", 3},
		{"((lambda (v1 v2) (read-byte)) 1 2)", "beta", 0},
		{"((lambda (v1) (read-byte)) 1)", "beta", -1},
		{"(let v1 (lambda () 5) (v1))", "inline 1", 1},
		{"(let v1 (lambda (v2) (cons v2 5)) (v1 6))", "inline 1", 3},
	} {
		x := parsed(t, c.source)
		s, last := stepsOf(c.step+" at 1"), stepsOf("fold at 2")
		brim := min(mostItems-c.more, mostItems)
		checkNext(t, row(brim, primitive(api.PRead), x, fold), s)
		checkNext(t, row(brim, primitive(api.PRead), x), s)
		if brim == mostItems {
			continue
		}
		e := row(brim+1, primitive(api.PRead), x, fold)
		tooLong(t, e, s[0])
		checkNext(t, e, last)
		checkNext(t, row(brim+1, primitive(api.PRead), x), nil)
		checkNext(t, row(mostItems, primitive(api.PRead), x), nil)
		// A fold leaves two expressions less.
		checkSteps(t, e, 2, append(last, s...))
	}
}

// Where variables have no numbers left, a lambda that binds some is not to be inlined.
func TestNoNumbersLeft(t *testing.T) {
	e := func(source string, greatest int) api.Expr {
		last, _ := core.Fresh(parsed(t, "(lambda (v1) (+ 1 2))"), greatest)
		return seq(parsed(t, source), last)
	}
	inline, fold := stepsOf("inline 1 at 0"), stepsOf("fold at 1 0")
	for _, c := range []struct {
		source string
		binds  int
	}{
		{"(let v1 (lambda () 5) (v1))", 0},
		{"(let v1 (lambda (v2) v2) (v1 5))", 1},
		{"(let v1 (lambda (v2 v3 . v4) v2) (v1 5))", 3},
		{"(let v1 (lambda (v2) (let v3 (read-byte) (lambda (v4) v3))) (v1 5))", 3},
	} {
		for top := greatest - 4; top <= greatest; top++ {
			x := e(c.source, top)
			want := inline
			if c.binds > 0 && top+c.binds > greatest {
				tooLong(t, x, inline[0])
				want = fold
			}
			checkNext(t, x, want)
		}
	}
}

// Of what is not May there is no step: Next tells none, and Optimize e, and a proof that claims it.
func TestNotMay(t *testing.T) {
	for i, e := range odd(t) {
		if s, ok := Next(e); ok || !exactlySteps([]rule.Step{s}, []rule.Step{{}}) {
			t.Errorf("Next of odd %d: %s, %t", i, stepsText([]rule.Step{s}), ok)
		}
		for _, n := range []int{-1, 0, 1, most, most + 1} {
			if l := Steps(e, n); len(l) > 0 {
				t.Errorf("Steps of odd %d, %d: %s", i, n, stepsText(l))
			}
		}
		for _, n := range []int{-1, 1, most} {
			got, p := Optimize(e, n)
			if len(p.Steps) > 0 {
				t.Errorf("Optimize of odd %d, %d: %s", i, n, stepsText(p.Steps))
			}
			size := core.Size(e)
			if size == 0 || size > 2*mostItems {
				// It may have no end: it is told as it is.
				if got.Kind != e.Kind || len(got.Kids) != len(e.Kids) || p.Claim.Kind != e.Kind || len(p.Claim.Kids) != len(e.Kids) {
					t.Errorf("Optimize of odd %d, %d: another one", i, n)
				}
				continue
			}
			if !exactly(got, e) || !exactly(p.Claim, e) {
				t.Errorf("Optimize of odd %d, %d: %s, claims %s", i, n, text(got), text(p.Claim))
			}
			if _, ok := proof.Check(e, p); ok {
				t.Errorf("Check of odd %d accepts", i)
			}
		}
	}
	for _, line := range lines(`
		(+ v1 (+ 1 2))
		(let v1 5 (set! v1 (+ 1 2)))
		(cons (let v1 5 v1) (let v1 6 v1))
		(begin 5 v1)
		((lambda (v1) (set! v1 2)) 5)
	`) {
		e := parsed(t, line)
		if _, ok := Next(e); ok || len(Steps(e, most)) > 0 {
			t.Errorf("there is a step of %s", line)
		}
		if got, p := Optimize(e, most); !exactly(got, e) || !exactly(p.Claim, e) || len(p.Steps) > 0 {
			t.Errorf("Optimize of %s: %s, claims %s by %s", line, text(got), text(p.Claim), stepsText(p.Steps))
		}
	}
}
