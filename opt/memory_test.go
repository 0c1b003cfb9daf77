package opt

import (
	"math"
	"reflect"
	"slices"
	"testing"

	"pavane/api"
	"pavane/core"
	"pavane/rule"
)

const mark = 0xdecade

// behind is a copy of l with room behind its end, in which marks stand.
func behind[T any](l []T, mark T) []T {
	out := append(slices.Clone(l), mark, mark, mark)
	return out[:len(l):len(out)]
}

// roomy is a copy of e with marks in the room behind all its lists.
func roomy(e api.Expr) api.Expr {
	e.D = roomyDatum(e.D)
	e.Vars = behind(e.Vars, mark)
	var kids []api.Expr
	for _, kid := range e.Kids {
		kids = append(kids, roomy(kid))
	}
	e.Kids = behind(kids, variableOf(mark))
	return e
}

func roomyDatum(d api.Datum) api.Datum {
	d.I.L = behind(d.I.L, mark)
	for _, l := range []*[]api.Datum{&d.Items, &d.Tail} {
		var made []api.Datum
		for _, x := range *l {
			made = append(made, roomyDatum(x))
		}
		*l = behind(made, api.Datum{Kind: api.Sym, S: "mark"})
	}
	return d
}

// whole is a copy of e in which the room behind lists is theirs, so that it can be seen.
func whole(e api.Expr) api.Expr {
	e.D = wholeDatum(e.D)
	e.Vars = slices.Clone(e.Vars[:cap(e.Vars)])
	var kids []api.Expr
	for _, kid := range e.Kids[:cap(e.Kids)] {
		kids = append(kids, whole(kid))
	}
	e.Kids = kids
	return e
}

func wholeDatum(d api.Datum) api.Datum {
	d.I.L = slices.Clone(d.I.L[:cap(d.I.L)])
	for _, l := range []*[]api.Datum{&d.Items, &d.Tail} {
		var made []api.Datum
		for _, x := range (*l)[:cap(*l)] {
			made = append(made, wholeDatum(x))
		}
		*l = made
	}
	return d
}

// scribble writes into all lists of e, and into the room behind them.
func scribble(e api.Expr) {
	scribbleDatum(e.D)
	vars := e.Vars[:cap(e.Vars)]
	for i := range vars {
		vars[i] = 99
	}
	kids := e.Kids[:cap(e.Kids)]
	for i := range kids {
		scribble(kids[i])
		kids[i] = api.Expr{Kind: 99, V: 99}
	}
}

func scribbleDatum(d api.Datum) {
	limbs := d.I.L[:cap(d.I.L)]
	for i := range limbs {
		limbs[i] = math.MaxUint32
	}
	for _, l := range [][]api.Datum{d.Items, d.Tail} {
		l = l[:cap(l)]
		for i := range l {
			scribbleDatum(l[i])
			l[i] = api.Datum{Kind: 99}
		}
	}
}

func scribbleSteps(l []rule.Step) {
	l = l[:cap(l)]
	for i := range l {
		path := l[i].Path[:cap(l[i].Path)]
		for k := range path {
			path[k] = 99
		}
		l[i] = rule.Step{Rule: 99, Path: []int{99}}
	}
}

// grows: what is appended to any one list of e, or written into it, is seen in no other one.
func grows(t *testing.T, e api.Expr, what string) {
	t.Helper()
	before, _ := core.At(e, nil)
	var walk func(x api.Expr)
	walk = func(x api.Expr) {
		_ = append(x.Kids, api.Expr{Kind: 99})
		_ = append(x.Vars, 99)
		growsDatum(x.D)
		for _, kid := range x.Kids {
			walk(kid)
		}
	}
	walk(e)
	if !exactly(e, before) {
		t.Errorf("%s: what is appended to a list of the answer is seen in another", what)
	}
	// Kids of different expressions are different memory.
	seen := map[*api.Expr]int{}
	walk = func(x api.Expr) {
		for i := range x.Kids {
			seen[&x.Kids[i]]++
			if seen[&x.Kids[i]] > 1 {
				t.Errorf("%s: a list of the answer is there twice", what)
				return
			}
			walk(x.Kids[i])
		}
	}
	walk(e)
}

func growsDatum(d api.Datum) {
	_ = append(d.I.L, 99)
	_ = append(d.Items, api.Datum{Kind: 99})
	_ = append(d.Tail, api.Datum{Kind: 99})
	for _, x := range slices.Concat(d.Items, d.Tail) {
		growsDatum(x)
	}
}

// given are expressions with lists of all sorts in them: such as there are steps of, deep and wide, and such as there are none of.
const given = `
	(let v1 (lambda (v2 . v3) '(1 (2) . 3)) (v1 '(4 (5)) 12345678901234567890))
	((lambda (v1 v2) (cons v1 (v2 '(1 (2) . 3)))) '(4 (5)) (lambda (v3 . v4) (cons v3 (+ 1 (+ 2 12345678901234567890)))))
	(begin '(1 2) (begin '(1 (2) . 3) (lambda (v1 v2 . v3) (begin v1 (if v2 (if v2 v1 v3) (if v2 v3 v1))))))
	(cons (+ 12345678901234567890 98765432109876543210) (let v7 12345678901234567890 (cons v7 v7)))
	(lambda (v1 . v2) (lambda (v3) (let v4 (= v3 12345678901234567890) (cons (= v3 12345678901234567890) (= v3 12345678901234567890)))))
	(let v1 (lambda (v2 . v3) '(1 (2) . 3)) (cons v1 (v1 '(4 (5)) 12345678901234567890)))
	'(1 (2 12345678901234567890) . "a")
	(cons v1 (lambda (v2 . v3) (begin '(1 (2) . 12345678901234567890) (+ 1 2))))
	(let v1 '(1 (2) . 3) (set! v1 (+ 1 12345678901234567890)))
`

// R3: what is handed in is as it was, and so is the room behind it; what is told shares nothing with it.
func TestMemory(t *testing.T) {
	for _, line := range lines(given) {
		source := parsed(t, line)
		e := roomy(source)
		before := whole(e)
		isAsItWas := func(call string) {
			t.Helper()
			if !reflect.DeepEqual(whole(e), before) {
				t.Fatalf("%s of %s changes what it is given", call, line)
			}
		}
		want, _ := Next(source)
		s, _ := Next(e)
		if !exactlySteps([]rule.Step{s}, []rule.Step{want}) {
			t.Errorf("Next of %s with room behind its lists: %s", line, stepsText([]rule.Step{s}))
		}
		isAsItWas("Next")

		steps := Steps(source, most)
		l := Steps(e, most)
		if !exactlySteps(l, steps) {
			t.Errorf("Steps of %s with room behind its lists: %s", line, stepsText(l))
		}
		isAsItWas("Steps")

		made, _ := Optimize(source, most)
		got, p := Optimize(e, most)
		if !exactly(got, made) || !exactly(p.Claim, made) || !exactlySteps(p.Steps, steps) {
			t.Errorf("Optimize of %s with room behind its lists: %s, claims %s by %s", line, text(got), text(p.Claim), stepsText(p.Steps))
		}
		isAsItWas("Optimize")

		for v := range 9 {
			all, called := Uses(source, v)
			if a, c := Uses(e, v); a != all || c != called {
				t.Errorf("Uses of %s, %d, with room behind its lists: %d, %d", line, v, a, c)
			}
		}
		isAsItWas("Uses")

		scribbleSteps([]rule.Step{s})
		scribbleSteps(l)
		scribbleSteps(p.Steps)
		scribble(got)
		scribble(p.Claim)
		isAsItWas("what is written into the answers")
	}
}

// No two lists of one answer share any memory: the paths of steps, and the lists of what came out and of what is claimed.
func TestListsOfTheirOwn(t *testing.T) {
	for _, line := range lines(given) {
		e := parsed(t, line)
		got, p := Optimize(e, most)
		grows(t, call(got, p.Claim), "Optimize of "+line)
		for _, l := range [][]rule.Step{Steps(e, most), p.Steps} {
			ownPaths(t, l, line)
		}
		claim, _ := core.At(got, nil)
		scribble(got)
		if !exactly(p.Claim, claim) {
			t.Errorf("Optimize of %s: what is written into what came out is seen in the claim", line)
		}
	}
	// Deep places that are side by side have a beginning of their paths in common.
	e := primitive(api.PRead)
	for range 20 {
		e = api.Expr{Kind: api.ExIf, Kids: []api.Expr{e, parsed(t, "(+ 1 (+ 2 3))"), parsed(t, "(+ 1 2)")}}
	}
	l := Steps(e, most)
	if len(l) != 60 {
		t.Fatalf("%d steps", len(l))
	}
	ownPaths(t, l, "ifs")
	_, p := Optimize(e, most)
	ownPaths(t, p.Steps, "ifs")
}

// ownPaths: what is written into the path of a step, or into the room behind its end, is seen in no other one.
func ownPaths(t *testing.T, l []rule.Step, what string) {
	t.Helper()
	for i, s := range l {
		path := s.Path[:cap(s.Path)]
		for k := range path {
			path[k] = 1000 + i
		}
	}
	for i, s := range l {
		for _, place := range s.Path[:cap(s.Path)] {
			if place != 1000+i {
				t.Fatalf("%s: step %d shares its path: %v", what, i, s.Path)
			}
		}
	}
}

// What is changed behind a call changes no answer, and an answer is not kept for the next call.
func TestNothingIsKept(t *testing.T) {
	for _, line := range lines(given) {
		want, proven := Optimize(parsed(t, line), most)
		e := parsed(t, line)
		s, ok := Next(e)
		first := Steps(e, 1)
		l := Steps(e, most)
		got, p := Optimize(e, most)
		scribble(e)
		if ok && !exactlySteps(first, []rule.Step{s}) || !exactlySteps(l, proven.Steps) || !exactlySteps(p.Steps, l) || !exactly(got, want) || !exactly(p.Claim, want) {
			t.Errorf("%s: an answer changes behind its call", line)
		}
		scribbleSteps(append(first, s))
		scribbleSteps(l)
		scribbleSteps(p.Steps)
		scribble(got)
		scribble(p.Claim)
		again, claimed := Optimize(parsed(t, line), most)
		if !exactly(again, want) || !exactly(claimed.Claim, want) || !exactlySteps(claimed.Steps, proven.Steps) || !exactlySteps(Steps(parsed(t, line), most), proven.Steps) {
			t.Errorf("%s: another answer the second time", line)
		}
	}
}

// An expression in which two parts are one in memory is one in which they are two.
func TestPartsInOne(t *testing.T) {
	kids := []api.Expr{numeral(1), numeral(2)}
	sum := primitive(api.PAdd, kids...)
	e := primitive(api.PCons, sum, primitive(api.PCons, sum, sum))
	checkSteps(t, e, most, stepsOf("fold at 0; fold at 1 0; fold at 1 1"))
	if !exactly(e, parsed(t, "(cons (+ 1 2) (cons (+ 1 2) (+ 1 2)))")) {
		t.Errorf("what is one in memory became %s", text(e))
	}
	got, p := Optimize(e, 0)
	got.Kids[0].Kids[0] = numeral(9)
	p.Claim.Kids[1].Kids[0].Kids[1] = numeral(8)
	if !exactly(got, parsed(t, "(cons (+ 9 2) (cons (+ 1 2) (+ 1 2)))")) || !exactly(p.Claim, parsed(t, "(cons (+ 1 2) (cons (+ 1 8) (+ 1 2)))")) {
		t.Errorf("Optimize of what is one in memory: %s, claims %s", text(got), text(p.Claim))
	}
	checkUses(t, call(sum, call(variableOf(1), kids[0]), variableOf(1)), 1, 2, 1)
}
