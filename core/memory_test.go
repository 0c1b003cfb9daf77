package core

import (
	"math"
	"slices"
	"testing"

	"pavane/api"
)

const spoilt = 0xdecade

// behind is a copy of l with room behind its end, in which marks stand.
func behind[T any](l []T, mark T) []T {
	out := append(slices.Clone(l), mark, mark, mark)
	return out[:len(l):len(out)]
}

// roomy is a copy of e with marks in the room behind all its lists, empty ones too.
func roomy(e api.Expr) api.Expr {
	e.D = roomyDatum(e.D)
	e.Vars = behind(e.Vars, spoilt)
	kids := make([]api.Expr, len(e.Kids))
	for i, kid := range e.Kids {
		kids[i] = roomy(kid)
	}
	e.Kids = behind(kids, api.Expr{Kind: spoilt})
	return e
}

func roomyDatum(d api.Datum) api.Datum {
	d.I.L = behind(d.I.L, spoilt)
	for _, l := range []*[]api.Datum{&d.Items, &d.Tail} {
		made := make([]api.Datum, len(*l))
		for i, x := range *l {
			made[i] = roomyDatum(x)
		}
		*l = behind(made, api.Datum{Kind: spoilt})
	}
	return d
}

// parts are all lists of an expression, with the room behind their ends.
type parts struct {
	kids  [][]api.Expr
	vars  [][]int
	data  [][]api.Datum
	limbs [][]uint32
}

func partsOf(l ...api.Expr) parts {
	var p parts
	for _, e := range l {
		p.add(e)
	}
	return p
}

func (p *parts) add(e api.Expr) {
	p.kids, p.vars = append(p.kids, e.Kids), append(p.vars, e.Vars)
	p.addDatum(e.D)
	for _, kid := range e.Kids {
		p.add(kid)
	}
}

func (p *parts) addDatum(d api.Datum) {
	p.limbs, p.data = append(p.limbs, d.I.L), append(p.data, d.Items, d.Tail)
	for _, x := range slices.Concat(d.Items, d.Tail) {
		p.addDatum(x)
	}
}

// isMarked: the marks behind all lists of e are still there.
func isMarked(e api.Expr) bool {
	p := partsOf(e)
	return allBehind(p.kids, func(x api.Expr) bool { return exactly(x, api.Expr{Kind: spoilt}) }) &&
		allBehind(p.vars, func(v int) bool { return v == spoilt }) &&
		allBehind(p.data, func(d api.Datum) bool { return exactlyDatum(d, api.Datum{Kind: spoilt}) }) &&
		allBehind(p.limbs, func(limb uint32) bool { return limb == spoilt })
}

func allBehind[T any](lists [][]T, is func(T) bool) bool {
	for _, l := range lists {
		for _, x := range l[len(l):cap(l)] {
			if !is(x) {
				return false
			}
		}
	}
	return true
}

// scribble writes into all lists of e, and into the room behind them.
func scribble(e api.Expr) {
	p := partsOf(e)
	fill(p.kids, api.Expr{Kind: 99, V: 99})
	fill(p.vars, 99)
	fill(p.data, api.Datum{Kind: 99, S: "scribbled"})
	fill(p.limbs, math.MaxUint32)
}

func fill[T any](lists [][]T, with T) {
	for _, l := range lists {
		l = l[:cap(l)]
		for i := range l {
			l[i] = with
		}
	}
}

// isApart: no two lists of the expressions share memory, the room behind them too.
func isApart(l ...api.Expr) bool {
	p := partsOf(l...)
	return areApart(p.kids) && areApart(p.vars) && areApart(p.data) && areApart(p.limbs)
}

func areApart[T any](lists [][]T) bool {
	seen := map[*T]int{}
	for _, l := range lists {
		l = l[:cap(l)]
		for i := range l {
			seen[&l[i]]++
			if seen[&l[i]] > 1 {
				return false
			}
		}
	}
	return true
}

// calls are all that take expressions, each with the expressions that it answers.
func calls() map[string]func(a, b api.Expr) []api.Expr {
	none := func(...any) []api.Expr { return nil }
	one := func(e api.Expr, _ ...any) []api.Expr { return []api.Expr{e} }
	deepest := func(e api.Expr) []int {
		var path []int
		for len(e.Kids) > 0 {
			path = append(path, len(e.Kids)-1)
			e = e.Kids[len(e.Kids)-1]
		}
		return path
	}
	return map[string]func(a, b api.Expr) []api.Expr{
		"Good":           func(a, b api.Expr) []api.Expr { return none(Good(a)) },
		"Closed":         func(a, b api.Expr) []api.Expr { return none(Closed(a)) },
		"Free":           func(a, b api.Expr) []api.Expr { return none(Free(a)) },
		"Bound":          func(a, b api.Expr) []api.Expr { return none(Bound(a)) },
		"Same":           func(a, b api.Expr) []api.Expr { return none(Same(a, b), Same(a, a)) },
		"Alike":          func(a, b api.Expr) []api.Expr { return none(Alike(a, b), Alike(a, a)) },
		"Size":           func(a, b api.Expr) []api.Expr { return none(Size(a)) },
		"Write":          func(a, b api.Expr) []api.Expr { return none(Write(a)) },
		"Fresh":          func(a, b api.Expr) []api.Expr { x, _ := Fresh(a, 70); return one(x) },
		"Fresh from 0":   func(a, b api.Expr) []api.Expr { x, _ := Fresh(a, 0); return one(x) },
		"Swap":           func(a, b api.Expr) []api.Expr { return one(Swap(a, 1, b)) },
		"Swap of 4":      func(a, b api.Expr) []api.Expr { return one(Swap(a, 4, b)) },
		"Swap by itself": func(a, b api.Expr) []api.Expr { return one(Swap(a, 1, a)) },
		"Boxes":          func(a, b api.Expr) []api.Expr { x, _ := Boxes(a); return one(x) },
		"At":             func(a, b api.Expr) []api.Expr { x, _ := At(a, nil); return one(x) },
		"At 0":           func(a, b api.Expr) []api.Expr { x, _ := At(a, []int{0}); return one(x) },
		"At 1":           func(a, b api.Expr) []api.Expr { x, _ := At(a, []int{1}); return one(x) },
		"Put":            func(a, b api.Expr) []api.Expr { x, _ := Put(a, nil, b); return one(x) },
		"Put 0":          func(a, b api.Expr) []api.Expr { x, _ := Put(a, []int{0}, b); return one(x) },
		"Put deep":       func(a, b api.Expr) []api.Expr { x, _ := Put(a, deepest(a), b); return one(x) },
		"Put of itself":  func(a, b api.Expr) []api.Expr { x, _ := Put(a, deepest(a), a); return one(x) },
	}
}

// smalls are samples that are soon gone through, with lists of all kinds in them, and ExSets of all kinds.
func smalls() []api.Expr {
	out := slices.DeleteFunc(samples(), func(e api.Expr) bool {
		return nodes(e) > 1000 || e.D.Kind == api.List && !Good(e) && e.Kind == api.ExConst
	})
	return append(out, exs(`
		(lambda (v1 v2 . v3) (begin (set! v1 (quote (a (99999999999) . "b"))) (begin (set! v3 v1) (v2 v3 v1))))
		(let v1 (quote (99999999999 (b))) (begin (set! v1 (%9 v1 (quote (12345678901 . c)))) (lambda v2 (set! v2 (v1 v2)))))
		(v1 v1 (v1 (lambda (v1) v1) v1))
		(v4 v4 (v4 (lambda (v5 v6) v4) v4))
	`)...)
}

func TestArgumentsAreLeft(t *testing.T) {
	for name, call := range calls() {
		for i, a := range smalls() {
			for _, b := range append(exs("v1 \n (lambda (v7 v8) (quote (1 2)))"), every(api.ExLambda)) {
				x, y := roomy(a), roomy(b)
				call(x, y)
				if !exactly(x, a) || !exactly(y, b) || !isMarked(x) || !isMarked(y) {
					t.Errorf("%s of expression %d changes what it is given: %s", name, i, mostly(x))
				}
			}
		}
	}
	path := behind([]int{1, 0}, spoilt)
	e := ex("(v1 (set! v2 v3))")
	At(e, path)
	Put(e, path, e)
	if !slices.Equal(path, []int{1, 0}) || !allBehind([][]int{path}, func(n int) bool { return n == spoilt }) {
		t.Errorf("a path is changed: %v", path)
	}
}

// What is written into an answer, and into its spare room, is seen neither in an argument nor in another answer, nor elsewhere in itself.
func TestAnswersAreNew(t *testing.T) {
	for name, call := range calls() {
		for i, a := range smalls() {
			x, y := roomy(a), roomy(every(api.ExSeq))
			answers, want := call(x, y), call(x, y)
			for j := range answers {
				if !exactly(answers[j], want[j]) {
					t.Errorf("%s of expression %d: answer %d is another than ahead", name, i, j)
				}
				if !isApart(answers[j]) {
					t.Errorf("%s of expression %d: lists of answer %d share memory: %s", name, i, j, mostly(x))
				}
				scribble(answers[j])
				if !exactly(x, a) || !exactly(y, every(api.ExSeq)) || !isMarked(x) || !isMarked(y) {
					t.Errorf("%s of expression %d: an answer shares memory with an argument: %s", name, i, mostly(a))
				}
				scribble(x)
				scribble(y)
				if again := call(roomy(a), roomy(every(api.ExSeq))); !exactly(want[j], again[j]) {
					t.Errorf("%s of expression %d: an answer hangs on what is done behind the call: %s", name, i, mostly(a))
				}
			}
		}
	}
}

// Lists of numbers are new, too.
func TestNumbersAreNew(t *testing.T) {
	for name, call := range map[string]func(api.Expr) []int{"Free": Free, "Bound": Bound} {
		for i, a := range smalls() {
			x := roomy(a)
			first, want := call(x), call(x)
			if first != nil {
				fill([][]int{first}, 99)
			}
			if !exactly(x, a) || !isMarked(x) || !slices.Equal(call(x), want) {
				t.Errorf("%s of expression %d shares memory", name, i)
			}
		}
	}
}

// A list that is handed in twice is two lists in the answer.
func TestSharedArgumentsComeApart(t *testing.T) {
	part := ex("(lambda (v1 v2) (v3 v4 (quote (1 (2)))))")
	shared := api.Expr{Kind: api.ExSeq, Kids: []api.Expr{part, part}}
	fresh, _ := Fresh(shared, 9)
	unchanged, _ := Fresh(shared, 0)
	at, _ := At(shared, nil)
	put, _ := Put(shared, []int{0, 0, 0}, part)
	whole, _ := Put(shared, nil, shared)
	for i, e := range []api.Expr{fresh, unchanged, at, put, whole, Swap(shared, 3, shared), Swap(shared, 4, part), Swap(shared, 1, part)} {
		if !isApart(e) {
			t.Errorf("answer %d: lists share memory", i)
		}
	}
	if !isApart(fresh, unchanged, at, put, whole) || !exactly(at, shared) {
		t.Error("answers share memory")
	}
	long := longs()[1]
	unchanged, _ = Fresh(long, 9)
	if !isApart(unchanged, Swap(long, 3, part)) {
		t.Error("answers of long expressions share memory")
	}
}
