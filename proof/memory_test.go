package proof

import (
	"math"
	"reflect"
	"slices"
	"testing"

	"pavane/api"
	"pavane/core"
	"pavane/rule"
)

const mark = 0xdecade

// behind is a copy of l with room behind its end, in which marks stand.
func behind[T any](l []T, mark T) []T {
	out := append(slices.Clone(l), mark, mark, mark)
	return out[:len(l):len(out)]
}

// roomy is a copy of e with marks in the room behind all its lists.
func roomy(e api.Expr) api.Expr {
	e.D = roomyDatum(e.D)
	e.Vars = behind(e.Vars, mark)
	var kids []api.Expr
	for _, kid := range e.Kids {
		kids = append(kids, roomy(kid))
	}
	e.Kids = behind(kids, variableOf(mark))
	return e
}

func roomyDatum(d api.Datum) api.Datum {
	d.I.L = behind(d.I.L, mark)
	for _, l := range []*[]api.Datum{&d.Items, &d.Tail} {
		var made []api.Datum
		for _, x := range *l {
			made = append(made, roomyDatum(x))
		}
		*l = behind(made, api.Datum{Kind: api.Sym, S: "mark"})
	}
	return d
}

func roomySteps(l []rule.Step) []rule.Step {
	var out []rule.Step
	for _, s := range l {
		s.Path = behind(s.Path, mark)
		out = append(out, s)
	}
	return behind(out, rule.Step{Rule: mark})
}

// whole is a copy of e in which the room behind lists is theirs, so that it can be seen.
func whole(e api.Expr) api.Expr {
	e.D = wholeDatum(e.D)
	e.Vars = slices.Clone(e.Vars[:cap(e.Vars)])
	var kids []api.Expr
	for _, kid := range e.Kids[:cap(e.Kids)] {
		kids = append(kids, whole(kid))
	}
	e.Kids = kids
	return e
}

func wholeDatum(d api.Datum) api.Datum {
	d.I.L = slices.Clone(d.I.L[:cap(d.I.L)])
	for _, l := range []*[]api.Datum{&d.Items, &d.Tail} {
		var made []api.Datum
		for _, x := range (*l)[:cap(*l)] {
			made = append(made, wholeDatum(x))
		}
		*l = made
	}
	return d
}

func wholeSteps(l []rule.Step) []rule.Step {
	var out []rule.Step
	for _, s := range l[:cap(l)] {
		s.Path = slices.Clone(s.Path[:cap(s.Path)])
		out = append(out, s)
	}
	return out
}

// scribble writes into all lists of e, and into the room behind them.
func scribble(e api.Expr) {
	scribbleDatum(e.D)
	vars := e.Vars[:cap(e.Vars)]
	for i := range vars {
		vars[i] = 99
	}
	kids := e.Kids[:cap(e.Kids)]
	for i := range kids {
		scribble(kids[i])
		kids[i] = api.Expr{Kind: 99, V: 99}
	}
}

func scribbleDatum(d api.Datum) {
	limbs := d.I.L[:cap(d.I.L)]
	for i := range limbs {
		limbs[i] = math.MaxUint32
	}
	for _, l := range [][]api.Datum{d.Items, d.Tail} {
		l = l[:cap(l)]
		for i := range l {
			scribbleDatum(l[i])
			l[i] = api.Datum{Kind: 99}
		}
	}
}

func scribbleSteps(l []rule.Step) {
	l = l[:cap(l)]
	for i := range l {
		path := l[i].Path[:cap(l[i].Path)]
		for k := range path {
			path[k] = 99
		}
		l[i] = rule.Step{Rule: 99, Path: []int{99}}
	}
}

// grows: what is appended to any one list of e, or written into it, is seen in no other one.
func grows(t *testing.T, e api.Expr, what string) {
	t.Helper()
	before, _ := core.At(e, nil)
	var walk func(x api.Expr)
	walk = func(x api.Expr) {
		_ = append(x.Kids, api.Expr{Kind: 99})
		_ = append(x.Vars, 99)
		growsDatum(x.D)
		for _, kid := range x.Kids {
			walk(kid)
		}
	}
	walk(e)
	if !exactly(e, before) {
		t.Errorf("%s: what is appended to a list of the answer is seen in another", what)
	}
	// Kids of different expressions are different memory.
	seen := map[*api.Expr]int{}
	walk = func(x api.Expr) {
		for i := range x.Kids {
			seen[&x.Kids[i]]++
			if seen[&x.Kids[i]] > 1 {
				t.Errorf("%s: a list of the answer is there twice", what)
				return
			}
			walk(x.Kids[i])
		}
	}
	walk(e)
}

func growsDatum(d api.Datum) {
	_ = append(d.I.L, 99)
	_ = append(d.Items, api.Datum{Kind: 99})
	_ = append(d.Tail, api.Datum{Kind: 99})
	for _, x := range slices.Concat(d.Items, d.Tail) {
		growsDatum(x)
	}
}

// given are expressions with lists of all sorts in them, and steps: such as go, none, and such as fail.
var given = []struct{ source, steps string }{
	{"(let v1 (lambda (v2 . v3) '(1 (2) . 3)) (v1 (v1 '(4 (5)) 12345678901234567890)))", "inline 2; inline 1"},
	{"((lambda (v1 v2) (cons v1 '(1 (2) . 3))) '(4 (5)) (lambda (v3 . v4) v3))", "beta"},
	{"(begin '(1 2) (begin '(1 (2) . 3) (lambda (v1 v2 . v3) v1)))", "drop; drop"},
	{"(cons (+ 12345678901234567890 98765432109876543210) (let v7 12345678901234567890 (cons v7 v7)))", "fold at 0; copy at 1; lift 1"},
	{"(cons (+ 12345678901234567890 98765432109876543210) (let v7 12345678901234567890 (cons v7 v7)))", "fold at 0; copy at 1"},
	{"(let v1 (lambda (v2 . v3) '(1 (2) . 3)) (v1 (v1 '(4 (5)) 12345678901234567890)))", "-"},
	{"(let v1 (lambda (v2 . v3) '(1 (2) . 3)) (v1 (v1 '(4 (5)) 12345678901234567890)))", "inline 2; inline 2"},
	{"(cons v1 (lambda (v2 . v3) '(1 (2) . 12345678901234567890)))", "fold at 1 0"},
}

// R3: what is handed in is as it was, and so is the room behind it; what is told shares nothing with it, and no two lists of it share any.
func TestMemory(t *testing.T) {
	for _, g := range given {
		source, l := parsed(t, g.source), stepsOf(g.steps)
		want, went, wrong := Run(source, l)
		e, steps, claim := roomy(source), roomySteps(l), roomy(want)
		p := Proof{steps, claim}
		proofs := behind([]Proof{p, {nil, claim}, {steps, roomy(source)}}, Proof{Claim: variableOf(mark)})
		isAsItWas := asItWas(t, g.source, e, claim, proofs[2].Claim, steps, proofs)

		got, n, err := Run(e, steps)
		if n != went || err != wrong || !exactly(got, want) {
			t.Errorf("Run of %s with room behind its lists: %s, %d, %v", g.source, text(got), n, err)
		}
		isAsItWas("Run", got, nil)

		got, ok := Check(e, p)
		if ok != (wrong == api.OK) || !exactly(got, want) {
			t.Errorf("Check of %s with room behind its lists: %s, %t", g.source, text(got), ok)
		}
		isAsItWas("Check", got, nil)

		got, _ = Check(e, proofs[2])
		isAsItWas("Check of a claim of what it was", got, nil)

		got, said := All(e, proofs)
		if len(said) != 3 || !exactly(got, want) {
			t.Errorf("All of %s with room behind its lists: %s, %v", g.source, text(got), said)
		}
		isAsItWas("All", got, nil)
		got, _ = All(e, nil)
		isAsItWas("All of no proofs", got, nil)

		made := Of(e, steps)
		if !exactlySteps(made.Steps, l) || !exactly(made.Claim, want) {
			t.Errorf("Of of %s with room behind its lists: %s, %s", g.source, stepsText(made.Steps), text(made.Claim))
		}
		isAsItWas("Of", made.Claim, made.Steps)
	}
}

// asItWas is asked behind a call: nothing of what was given has changed, nor does it when all that the call told is written over.
func asItWas(t *testing.T, source string, e, claim, other api.Expr, steps []rule.Step, proofs []Proof) func(call string, told api.Expr, toldSteps []rule.Step) {
	t.Helper()
	now := func() []any {
		var claims []api.Expr
		for _, p := range proofs[:cap(proofs)] {
			claims = append(claims, whole(p.Claim))
		}
		return []any{whole(e), whole(claim), whole(other), wholeSteps(steps), claims}
	}
	before := now()
	return func(call string, told api.Expr, toldSteps []rule.Step) {
		t.Helper()
		if !reflect.DeepEqual(now(), before) {
			t.Fatalf("%s of %s changes what it is given", call, source)
		}
		grows(t, told, call+" of "+source)
		scribble(told)
		scribbleSteps(toldSteps)
		if !reflect.DeepEqual(now(), before) {
			t.Fatalf("%s of %s: what is written into the answer is seen in what was given", call, source)
		}
	}
}

// The steps that Of tells are its own, each with a path of its own, also where those given have one path for all of them.
func TestStepsOfTheirOwn(t *testing.T) {
	path := make([]int, 2, 8)
	l := slices.Repeat([]rule.Step{{Rule: rule.Fold, Path: path}}, 3)
	p := Of(numeral(3), l)
	for i, s := range p.Steps {
		s.Path[0] = i + 1
		_ = append(s.Path, 77)
	}
	_ = append(p.Steps, rule.Step{Rule: 77})
	for i, s := range p.Steps {
		if !slices.Equal(s.Path, []int{i + 1, 0}) {
			t.Errorf("path %d of Of: %v", i, s.Path)
		}
	}
	if !slices.Equal(path[:cap(path)], make([]int, 8)) {
		t.Errorf("the path given became %v", path[:cap(path)])
	}
	p.Steps[0].Rule = 9
	if l[0].Rule != rule.Fold {
		t.Error("the steps given are those told")
	}
}

// What is changed behind a call changes no answer, and an answer is not kept for the next call.
func TestNothingIsKept(t *testing.T) {
	for _, g := range given {
		e, l := parsed(t, g.source), stepsOf(g.steps)
		want, went, wrong := Run(parsed(t, g.source), stepsOf(g.steps))
		made := Of(e, l)
		claim, _ := core.At(want, nil)
		proofs := []Proof{{stepsOf(g.steps), claim}, {nil, claim}}
		ran, _, _ := Run(e, l)
		checked, ok := Check(e, proofs[0])
		all, said := All(e, proofs)
		allToo, saidToo := All(e, proofs)
		scribble(allToo)
		clear(saidToo[:cap(saidToo)])
		saidToo[0] = !said[0]
		scribble(e)
		scribble(claim)
		scribbleSteps(l)
		scribbleSteps(proofs[0].Steps)
		clear(proofs)
		goes := wrong == api.OK
		if !exactly(ran, want) || !exactly(checked, want) || !exactly(all, want) || !exactly(made.Claim, want) || ok != goes || said[0] != goes {
			t.Errorf("%s by %s: an answer changes behind its call", g.source, g.steps)
		}
		if !exactlySteps(made.Steps, stepsOf(g.steps)) {
			t.Errorf("%s by %s: the steps of Of change behind its call", g.source, g.steps)
		}
		got, n, err := Run(parsed(t, g.source), stepsOf(g.steps))
		if n != went || err != wrong || !exactly(got, want) {
			t.Errorf("%s by %s: another answer the second time", g.source, g.steps)
		}
	}
}

// An expression in which two parts are one in memory is one in which they are two.
func TestPartsInOne(t *testing.T) {
	kids := []api.Expr{numeral(1), numeral(2)}
	e := primitive(api.PCons, primitive(api.PAdd, kids...), primitive(api.PAdd, kids...))
	checkRun(t, e, stepsOf("fold at 1"), parsed(t, "(cons (+ 1 2) 3)"), 1, api.OK)
	checkRun(t, e, nil, parsed(t, "(cons (+ 1 2) (+ 1 2))"), 0, api.OK)
	for _, l := range [][]rule.Step{nil, stepsOf("fold"), stepsOf("fold at 0 0")} {
		got, _, _ := Run(e, l)
		got.Kids[0].Kids[0] = numeral(9)
		if !exactly(got, parsed(t, "(cons (+ 9 2) (+ 1 2))")) || !exactly(e, parsed(t, "(cons (+ 1 2) (+ 1 2))")) {
			t.Errorf("Run of what is one in memory: %s", text(got))
		}
	}
}
