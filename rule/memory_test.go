package rule

import (
	"math"
	"reflect"
	"slices"
	"testing"

	"pavane/api"
	"pavane/core"
)

const mark = 0xdecade

// behind is a copy of l with room behind its end, in which marks stand.
func behind[T any](l []T, mark T) []T {
	out := append(slices.Clone(l), mark, mark, mark)
	return out[:len(l):len(out)]
}

// roomyDatum is a copy of d with marks in the room behind all its lists.
func roomyDatum(d api.Datum) api.Datum {
	d.I.L = behind(d.I.L, mark)
	for _, l := range []*[]api.Datum{&d.Items, &d.Tail} {
		var made []api.Datum
		for _, x := range *l {
			made = append(made, roomyDatum(x))
		}
		*l = behind(made, api.Datum{Kind: api.Sym, S: "mark"})
	}
	return d
}

// roomy is a copy of e with marks in the room behind all its lists.
func roomy(e api.Expr) api.Expr {
	e.D = roomyDatum(e.D)
	e.Vars = behind(e.Vars, mark)
	var kids []api.Expr
	for _, kid := range e.Kids {
		kids = append(kids, roomy(kid))
	}
	e.Kids = behind(kids, variableOf(mark))
	return e
}

// whole is a copy of e in which the room behind lists is theirs, so that it can be seen.
func whole(e api.Expr) api.Expr {
	e.D = wholeDatum(e.D)
	e.Vars = slices.Clone(e.Vars[:cap(e.Vars)])
	var kids []api.Expr
	for _, kid := range e.Kids[:cap(e.Kids)] {
		kids = append(kids, whole(kid))
	}
	e.Kids = kids
	return e
}

func wholeDatum(d api.Datum) api.Datum {
	d.I.L = slices.Clone(d.I.L[:cap(d.I.L)])
	for _, l := range []*[]api.Datum{&d.Items, &d.Tail} {
		var made []api.Datum
		for _, x := range (*l)[:cap(*l)] {
			made = append(made, wholeDatum(x))
		}
		*l = made
	}
	return d
}

// scribble writes into all lists of e, and into the room behind them.
func scribble(e api.Expr) {
	scribbleDatum(e.D)
	vars := e.Vars[:cap(e.Vars)]
	for i := range vars {
		vars[i] = 99
	}
	kids := e.Kids[:cap(e.Kids)]
	for i := range kids {
		scribble(kids[i])
		kids[i] = api.Expr{Kind: 99, V: 99}
	}
}

func scribbleDatum(d api.Datum) {
	limbs := d.I.L[:cap(d.I.L)]
	for i := range limbs {
		limbs[i] = math.MaxUint32
	}
	for _, l := range [][]api.Datum{d.Items, d.Tail} {
		l = l[:cap(l)]
		for i := range l {
			scribbleDatum(l[i])
			l[i] = api.Datum{Kind: 99}
		}
	}
}

// rich are expressions by the rule that they are of a form for, with lists of all sorts in them.
var rich = map[string]string{
	"fold":       "(+ 12345678901234567890 98765432109876543210)",
	"branch":     "(if 12345678901234567890 (begin '(1 (2) . 3) (lambda (v1 v2 . v3) v1)) '(4 (5)))",
	"drop":       "(begin '(1 2) (begin '(1 (2) . 3) (lambda (v1 v2 . v3) v1)))",
	"unused":     "(let v7 '(1 2) (begin '(1 (2) . 3) (lambda (v1 v2 . v3) v1)))",
	"copy":       "(let v7 12345678901234567890 (v7 (lambda (v1 v2 . v3) (v7 v1)) v7 '(1 (2) . 3)))",
	"beta":       "((lambda (v1 v2) (cons v1 '(1 (2) . 3))) '(4 (5)) (lambda (v3 . v4) v3))",
	"inline 2":   "(let v1 (lambda (v2 . v3) '(1 (2) . 3)) (v1 (v1 '(4 (5)) 12345678901234567890)))",
	"again 2":    "(let v1 (* 12345678901234567890 v8) (cons (* 12345678901234567890 v8) (* 12345678901234567890 v8)))",
	"not":        "(if (not (lambda (v1 . v2) '(1))) '(1 (2) . 3) '(4 (5)))",
	"float":      "(let v1 (let v2 '(1 (2) . 3) '(4 (5))) (lambda (v3 . v4) 12345678901234567890))",
	"ahead":      "(let v1 (begin '(1 (2) . 3) '(4 (5))) (lambda (v3 . v4) 12345678901234567890))",
	"known 1":    "(if v1 (if v1 '(1 (2) . 3) '(4 (5))) (lambda (v3 . v4) 12345678901234567890))",
	"known 1 no": "(if v1 '(1 (2) . 3) (if v1 '(4 (5)) (lambda (v3 . v4) 12345678901234567890)))",
	"lift 2":     "(v9 (let v1 '(1 (2) . 3) '(4 (5))) (lambda (v3 . v4) 12345678901234567890))",
}

// R3: what is handed in is as it was, and so is the room behind it; what is told shares nothing with it, and no two lists of it share any.
func TestMemory(t *testing.T) {
	for how, source := range rich {
		x, s := parsed(t, source), stepOf(how)
		want, ok := Here(x, s, fresh)
		if !ok {
			t.Fatalf("Here of %s by %s: none", source, how)
		}
		given := roomy(x)
		before := whole(given)
		got, ok := Here(given, s, fresh)
		if !ok || !exactly(got, want) {
			t.Errorf("Here of %s with room behind its lists: %s, %t, want %s", source, text(got), ok, text(want))
		}
		if !reflect.DeepEqual(whole(given), before) {
			t.Fatalf("Here of %s changes what it is given", source)
		}
		holdsItsOwn(t, got, given, before, want, how)
	}
	for how, source := range rich {
		e, s := closed(parsed(t, source)), stepOf(how)
		s.Path = []int{0}
		want, err := Apply(e, s)
		if err != api.OK {
			t.Fatalf("Apply of %s by %s: %v", source, how, err)
		}
		given := roomy(e)
		before := whole(given)
		s.Path = behind(s.Path, mark)
		got, err := Apply(given, s)
		if err != api.OK || !exactly(got, want) {
			t.Errorf("Apply of %s with room behind its lists: %s, %v, want %s", source, text(got), err, text(want))
		}
		if !reflect.DeepEqual(whole(given), before) || !slices.Equal(s.Path[:cap(s.Path)], []int{0, mark, mark, mark}) {
			t.Fatalf("Apply of %s changes what it is given", source)
		}
		May(given)
		Idle(given)
		Simple(given)
		if !reflect.DeepEqual(whole(given), before) {
			t.Fatalf("May, Idle or Simple of %s change what they are given", source)
		}
		holdsItsOwn(t, got, given, before, want, how)
	}
}

// holdsItsOwn: what is written into one list of an answer is seen nowhere else.
func holdsItsOwn(t *testing.T, got, given, before, want api.Expr, how string) {
	t.Helper()
	for path := range everyPath(got) {
		part := got
		for _, i := range path {
			part = part.Kids[i]
		}
		copyOf, _ := core.At(part, nil)
		others, _ := core.Put(got, path, api.Expr{})
		kids := slices.Clone(part.Kids)
		scribbleAlone(part)
		if now, _ := core.Put(got, path, api.Expr{}); !exactly(now, others) {
			t.Errorf("%s: what is written into a part of the answer is seen elsewhere in it", how)
		}
		restore(part, copyOf, kids)
	}
	if !exactly(got, want) {
		t.Fatalf("%s: the answer was not written back", how)
	}
	scribble(got)
	if !reflect.DeepEqual(whole(given), before) {
		t.Errorf("%s: what is written into the answer is seen in what was given", how)
	}
}

// scribbleAlone writes into the lists of e, and the room behind them, but not into those of its Kids.
func scribbleAlone(e api.Expr) {
	scribbleDatum(e.D)
	vars := e.Vars[:cap(e.Vars)]
	for i := range vars {
		vars[i] = 99
	}
	kids := e.Kids[:cap(e.Kids)]
	for i := range kids {
		kids[i] = api.Expr{Kind: 99, V: 99}
	}
}

// restore writes back what scribbleAlone wrote over: was is a copy of e as it was.
func restore(e, was api.Expr, kids []api.Expr) {
	copy(e.Kids, kids)
	copy(e.Vars, was.Vars)
	restoreDatum(e.D, was.D)
}

func restoreDatum(d, was api.Datum) {
	copy(d.I.L, was.I.L)
	for i := range was.Items {
		d.Items[i] = was.Items[i]
	}
	copy(d.Tail, was.Tail)
}

// everyPath tells the paths of all expressions in e.
func everyPath(e api.Expr) func(func([]int) bool) {
	return func(yield func([]int) bool) {
		var walk func(e api.Expr, path []int) bool
		walk = func(e api.Expr, path []int) bool {
			if !yield(slices.Clone(path)) {
				return false
			}
			for i, kid := range e.Kids {
				if !walk(kid, append(slices.Clone(path), i)) {
					return false
				}
			}
			return true
		}
		walk(e, nil)
	}
}

// What is changed behind a call changes no answer, and an answer is not kept for the next call.
func TestNothingIsKept(t *testing.T) {
	for how, source := range rich {
		e, s := closed(parsed(t, source)), stepOf(how)
		s.Path = []int{0}
		want, _ := Apply(e, s)
		here, _ := Here(e.Kids[0], s, fresh)
		hereToo, _ := Here(e.Kids[0], s, fresh)
		again, err := Apply(e, s)
		if err != api.OK || !exactly(again, want) || !exactly(here, hereToo) {
			t.Errorf("%s: another answer the second time", how)
		}
		was, _ := core.At(want, nil)
		scribble(again)
		scribble(hereToo)
		scribble(e)
		s.Path[0] = 5
		if !exactly(want, was) {
			t.Errorf("%s: an answer changes behind its call", how)
		}
		if fresh, err := Apply(closed(parsed(t, source)), Step{Rule: s.Rule, Path: []int{0}, N: s.N, No: s.No}); err != api.OK || !exactly(fresh, want) {
			t.Errorf("%s: %s, %v, want %s", how, text(fresh), err, text(want))
		}
	}
	// Two parts that are one in memory are two.
	one := parsed(t, "(let v1 '(1) v1)")
	kids := []api.Expr{numeral(1), numeral(2)}
	twice := seq(primitive(api.PAdd, kids...), primitive(api.PAdd, kids...))
	got, err := Apply(twice, Step{Rule: Fold, Path: []int{1}})
	if err != api.OK || !exactly(got, seq(primitive(api.PAdd, kids...), numeral(3))) {
		t.Errorf("Apply of what is twice: %s, %v", text(got), err)
	}
	if _, err := Apply(seq(one, one), Step{Rule: Fold}); err != api.ErrArg {
		t.Errorf("Apply of what is bound twice: %v", err)
	}
}
