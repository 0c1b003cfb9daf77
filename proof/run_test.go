package proof

import (
	"math"
	"slices"
	"strconv"
	"strings"
	"testing"

	"pavane/api"
	"pavane/core"
	"pavane/rule"
)

// Each line: steps: an expression => what they make of it; or an error, and how many went.
func TestRun(t *testing.T) {
	for _, line := range lines(`
		-: 5 => 5
		-: (write (+ 1 2)) => (write (+ 1 2))
		-: (let v1000000 (read-byte) v1000000) => (let v1000000 (read-byte) v1000000)
		fold: (+ 1 2) => 3
		fold at 1; fold: (+ 1 (+ 2 3)) => 6
		fold at 1: (+ 1 (+ 2 3)) => (+ 1 5)
		beta; copy: ((lambda (v1) v1) 5) => 5
		beta; copy; fold: ((lambda (v1) (+ v1 2)) 1) => 3
		branch at 0; fold at 1; drop: (begin (if #f 1 2) (+ 3 4)) => 7
		inline 1; inline 1: (let v1 (lambda (v2) v2) (cons (v1 5) (v1 6))) => (let v1 (lambda (v2) v2) (cons ((lambda (v3) v3) 5) ((lambda (v4) v4) 6)))
		inline 2; inline 1: (let v1 (lambda (v2) v2) (cons (v1 5) (v1 6))) => (let v1 (lambda (v2) v2) (cons ((lambda (v4) v4) 5) ((lambda (v3) v3) 6)))
		not at 1; known 1 no at 1: (let v1 (read-byte) (if (not v1) (if v1 2 3) 4)) => (let v1 (read-byte) (if v1 4 3))
		lift 2; unused; ahead: (cons 1 (let v1 2 (let v3 (begin (read-byte) 4) v3))) => error proof 2
		lift 2; unused: (cons 1 (let v1 2 (let v3 (begin (read-byte) 4) v3))) => (cons 1 (let v3 (begin (read-byte) 4) v3))
		lift 2; unused; lift 2; ahead; copy at 1: (cons 1 (let v1 2 (let v3 (begin (read-byte) 4) v3))) => (begin (read-byte) (cons 1 4))
		float; again 1 at 1; copy at 1 1: (let v1 (let v2 (read-byte) (not v2)) (cons (not v2) v1)) => error arg 0
		again 1 at 1: (let v2 (read-byte) (let v1 (not v2) (cons (not v2) v1))) => (let v2 (read-byte) (let v1 (not v2) (cons v1 v1)))

		fold; fold at 1: (+ 1 (+ 2 3)) => error proof 0
		fold at 1; fold; fold: (+ 1 (+ 2 3)) => error proof 2
		fold at 1; fold at 1; fold: (+ 1 (+ 2 3)) => error proof 1
		fold at 1; drop; fold: (+ 1 (+ 2 3)) => error proof 1
		fold at 2; fold at 1; fold: (+ 1 (+ 2 3)) => error proof 0
		fold at 1; fold at -1; fold: (+ 1 (+ 2 3)) => error proof 1
		fold: (+ 1 "a") => error proof 0
		fold: 5 => error proof 0
		beta; copy; unused: ((lambda (v1) v1) 5) => error proof 2
		inline 1; inline 1; inline 1: (let v1 (lambda (v2) v2) (cons (v1 5) (v1 6))) => error proof 2
		inline 0: (let v1 (lambda (v2) v2) (v1 5)) => error proof 0
		inline 1; inline 1: (let v999998 (lambda (v2) v2) (cons (v999998 5) (v999998 6))) => (let v999998 (lambda (v2) v2) (cons ((lambda (v999999) v999999) 5) ((lambda (v1000000) v1000000) 6)))
		inline 1; inline 1: (let v999999 (lambda (v2) v2) (cons (v999999 5) (v999999 6))) => error long 1
		inline 1; fold at 0: (let v1000000 (lambda (v2) v2) (v1000000 5)) => error long 0
		fold at 0: (lambda (v1) v2) => error arg 0
		-: v1 => error arg 0
		-: (set! v1 2) => error arg 0
		fold at 1; fold: (begin (set! v1 2) (+ 1 2)) => error arg 0
		fold at 1: (let v1 1 (begin (set! v1 2) (+ 1 2))) => error arg 0
		drop at 7: (begin (let v1 1 v1) (let v1 1 v1)) => error arg 0
	`) {
		how, rest, _ := strings.Cut(line, ": ")
		source, want, ok := strings.Cut(rest, " => ")
		if !ok {
			t.Fatalf("not a line of a table: %s", line)
		}
		e, l := parsed(t, source), stepsOf(how)
		if words, failed := strings.CutPrefix(want, "error "); failed {
			name, went, _ := strings.Cut(words, " ")
			checkFails(t, e, l, numbersOf(went)[0], errorOf(name))
			continue
		}
		out := parsed(t, want)
		checkRun(t, e, l, out, len(l), api.OK)
		meansTheSame(t, e, out)
	}
}

// errorOf is the error of that name.
func errorOf(name string) api.Errno {
	for err := range api.ErrLine + 1 {
		if api.Text(err) == name {
			return err
		}
	}
	panic(name)
}

// Run of some steps, and then of the others, is Run of all of them.
func TestRunInTwo(t *testing.T) {
	e := nots(30, parsed(t, "#t"))
	var l []rule.Step
	for deep := range 30 {
		l = append(l, rule.Step{Rule: rule.Fold, Path: make([]int, 29-deep)})
	}
	truth := map[int]api.Expr{0: parsed(t, "#t"), 1: parsed(t, "#f")}
	for n := range 31 {
		first := nots(30-n, truth[n%2])
		checkRun(t, e, l[:n], first, n, api.OK)
		checkRun(t, first, l[n:], truth[0], 30-n, api.OK)
	}
}

// As many steps as may be, and more.
func TestRunOfManySteps(t *testing.T) {
	five := numeral(5)
	for _, c := range []struct {
		e     api.Expr
		steps int
		want  api.Expr
		went  int
		wrong api.Errno
	}{
		{begins(1, five), 1, five, 1, api.OK},
		{begins(most-1, five), most - 1, five, most - 1, api.OK},
		{begins(most, five), most, five, most, api.OK},
		{begins(most+1, five), most, begins(1, five), most, api.OK},
		{begins(most-1, five), most, begins(most-1, five), most - 1, api.ErrProof},
	} {
		if got, went, err := Run(c.e, drops(c.steps)); err != c.wrong || went != c.went || !exactly(got, c.want) {
			t.Errorf("Run of %s by %d steps: %s, %d, %v, want %s, %d, %v", text(c.e), c.steps, text(got), went, err, text(c.want), c.went, c.wrong)
		}
	}
	for _, n := range []int{most + 1, most + 2, 2 * most, 2499} {
		checkFails(t, begins(n, five), drops(n), 0, api.ErrLong)
		checkFails(t, begins(n-1, five), drops(n), 0, api.ErrLong)
		checkFails(t, five, drops(n), 0, api.ErrLong)
	}
	checkFails(t, five, make([]rule.Step, 1000000), 0, api.ErrLong)
}

// What is wrong with e is told ahead of too many steps, and these ahead of what is wrong with one of them.
func TestRunsFirstError(t *testing.T) {
	bad := drops(most + 1)
	bad[0] = rule.Step{Rule: 99}
	good, open := begins(most+1, numeral(5)), begins(most+1, variableOf(1))
	checkFails(t, good, bad, 0, api.ErrLong)
	checkFails(t, good, bad[:most], 0, api.ErrProof)
	for _, l := range [][]rule.Step{nil, drops(1), drops(most), drops(most + 1), bad[:1], bad} {
		checkFails(t, open, l, 0, api.ErrArg)
	}
	for _, e := range odd(t) {
		if core.Size(e) > 2*mostItems || core.Size(e) == 0 {
			continue
		}
		for _, l := range [][]rule.Step{nil, stepsOf("fold"), stepsOf("fold at 0"), drops(most), drops(most + 1), bad} {
			checkFails(t, e, l, 0, api.ErrArg)
		}
	}
}

// What need not end is told as it is.
func TestRunOfEndless(t *testing.T) {
	for _, e := range []api.Expr{ring(api.ExSeq, 2), ring(api.ExPrim, 1), ring(api.ExCall, 100000), doubled(60, numeral(3))} {
		for _, l := range [][]rule.Step{nil, drops(1), drops(most + 1)} {
			got, went, err := Run(e, l)
			if err != api.ErrArg || went != 0 || got.Kind != e.Kind || len(got.Kids) != len(e.Kids) {
				t.Errorf("Run of what holds itself: %d, %d, %v", got.Kind, went, err)
			}
		}
		p := Proof{Claim: e}
		if got, ok := Check(e, p); ok || got.Kind != e.Kind || len(got.Kids) != len(e.Kids) {
			t.Errorf("Check of what holds itself: %d, %t", got.Kind, ok)
		}
		if got, said := All(e, []Proof{p, p, p}); !slices.Equal(said, []bool{false, false, false}) || got.Kind != e.Kind || len(got.Kids) != len(e.Kids) {
			t.Errorf("All of what holds itself: %d, %v", got.Kind, said)
		}
		if p := Of(e, drops(2)); !exactlySteps(p.Steps, drops(2)) || p.Claim.Kind != e.Kind || len(p.Claim.Kids) != len(e.Kids) {
			t.Errorf("Of of what holds itself: %d, %s", p.Claim.Kind, stepsText(p.Steps))
		}
	}
}

// floats is a call of a let of a lambda that may be inlined, and of n lets of lets, of just as many expressions as may be; and the steps by which the latter float, and by which it has as many expressions as before.
func floats(t *testing.T, n int) (api.Expr, []rule.Step) {
	t.Helper()
	kids := []api.Expr{parsed(t, "(let v1 (lambda (v2) v2) (v1 5))")}
	var l []rule.Step
	for i := range n {
		outer, inner := strconv.Itoa(3+2*i), strconv.Itoa(4+2*i)
		kids = append(kids, parsed(t, "(let v"+outer+" (let v"+inner+" 7 8) 9)"))
		l = append(l, rule.Step{Rule: rule.Float, Path: []int{i + 1}})
	}
	e := row(mostItems, kids...)
	if core.Size(e) != mostItems || !rule.May(e) {
		t.Fatalf("%s is not as great as may be", text(e))
	}
	return e, l
}

// A step that does not go, in each place: the first one counts, and nothing of those that went is told.
func TestRunFailsInAllPlaces(t *testing.T) {
	const n = 5
	e, l := floats(t, n)
	long := rule.Step{Rule: rule.Inline, Path: []int{0}, N: 1}
	if got, went, err := Run(e, l); err != api.OK || went != n || exactly(got, e) || core.Size(got) != mostItems {
		t.Fatalf("Run of steps that go: %d, %v", went, err)
	}
	bad := []rule.Step{
		{}, {Rule: -1}, {Rule: 14}, {Rule: math.MaxInt}, {Rule: math.MinInt}, {Rule: rule.Float}, {Rule: rule.Float, Path: []int{n + 1}},
		{Rule: rule.Float, Path: []int{-1}}, {Rule: rule.Float, Path: []int{math.MaxInt}}, {Rule: rule.Float, Path: []int{1, 0, 0, 0}}, {Rule: rule.Float, Path: make([]int, 100000)},
		{Rule: rule.Inline, Path: []int{0}}, {Rule: rule.Inline, Path: []int{0}, N: -1}, {Rule: rule.Inline, Path: []int{0}, N: 2}, {Rule: rule.Inline, Path: []int{0}, N: math.MaxInt},
	}
	for i := range n + 1 {
		checkFails(t, e, slices.Insert(slices.Clone(l), i, long), i, api.ErrLong)
		checkFails(t, e, slices.Insert(slices.Clone(l), i, long, bad[0]), i, api.ErrLong)
		checkFails(t, e, slices.Insert(slices.Clone(l), i, bad[0], long), i, api.ErrProof)
		checkFails(t, e, append(slices.Insert(slices.Clone(l), i, bad[i]), long), i, api.ErrProof)
	}
	for _, s := range bad {
		checkFails(t, e, []rule.Step{s}, 0, api.ErrProof)
		checkFails(t, e, append(slices.Clone(l[:3]), s), 3, api.ErrProof)
	}
	// With one expression less there is room.
	e.Kids = e.Kids[:len(e.Kids)-1]
	all := append(slices.Clone(l), long)
	if got, went, err := Run(e, all); err != api.OK || went != n+1 || core.Size(got) != mostItems {
		t.Errorf("Run of steps that make as much as may be: %d expressions, %d, %v", core.Size(got), went, err)
	}
}
