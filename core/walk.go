package core

import (
	"iter"

	"pavane/api"
)

// extent is how many expressions there are in one, and how deep they lie.
type extent struct {
	size, deep int
}

// looked is the most that calls look at: expressions may hold one another without an end.
func looked() extent {
	return extent{size: 100000, deep: 10000}
}

// given is what the document's bound lets be handed in: 2^31 - 1 bytes, of which an expression has about two hundred, and 2^16 parts in one another.
func given() extent {
	return extent{size: 12000000, deep: 1 << 16}
}

func isLookedAt(e api.Expr) bool {
	_, ok := measure(&e, looked())
	return ok
}

// measure is how many expressions there are in e; false, and as many of them as were counted, if it is beyond most.
func measure(e *api.Expr, most extent) (int, bool) {
	size := 0
	for level := range told(e) {
		size++
		if size > most.size || level > most.deep {
			return size, false
		}
	}
	return size, true
}

// told tells e, and all expressions in it, as they lie there, each behind the one that holds it, with how deep it lies. It need not end of itself.
func told(e *api.Expr) iter.Seq2[int, *api.Expr] {
	return func(yield func(int, *api.Expr) bool) {
		if !yield(1, e) {
			return
		}
		for rest := [][]api.Expr{e.Kids}; len(rest) > 0; {
			last := len(rest) - 1
			if len(rest[last]) == 0 {
				rest = rest[:last]
				continue
			}
			x := &rest[last][0]
			rest[last] = rest[last][1:]
			if !yield(len(rest)+1, x) {
				return
			}
			rest = append(rest, x.Kids)
		}
	}
}

// binds: the variables that e binds, and the place of the only one of its Kids in which it does.
func binds(e *api.Expr) ([]int, int) {
	switch e.Kind {
	case api.ExLambda:
		return e.Vars, 0
	case api.ExLet:
		return []int{e.V}, 1
	}
	return nil, -1
}

// placed tells e, and all expressions in it, in told's order, each with what is bound where it stands: of a variable the place in Bound, from 1 on, of what binds it; 0 of a free one. Who is told an expression may give it other variables, but in a list of its own. It is for what is looked at: it goes as deep as expressions lie.
func placed(e *api.Expr) iter.Seq2[*api.Expr, map[int]int] {
	return func(yield func(*api.Expr, map[int]int) bool) {
		w := walk{yield: yield, bound: map[int]int{}}
		w.expr(e)
	}
}

type walk struct {
	yield func(*api.Expr, map[int]int) bool
	bound map[int]int
	// met is how many variables were bound so far.
	met int
}

func (w *walk) expr(e *api.Expr) bool {
	vars, body := binds(e)
	from := w.met + 1
	w.met += len(vars)
	if !w.yield(e, w.bound) {
		return false
	}
	for i := range e.Kids {
		kid := &e.Kids[i]
		if i == body && !w.inside(kid, vars, from) || i != body && !w.expr(kid) {
			return false
		}
	}
	return true
}

// inside goes on in an expression in which vars are bound.
func (w *walk) inside(e *api.Expr, vars []int, from int) bool {
	defer w.bind(vars, from)()
	return w.expr(e)
}

// bind binds vars, and answers what releases them. It goes from the last one to the first: of two that are one variable the first counts.
func (w *walk) bind(vars []int, from int) func() {
	were := make([]int, len(vars))
	for i := len(vars) - 1; i >= 0; i-- {
		were[i] = w.bound[vars[i]]
		w.bound[vars[i]] = from + i
	}
	return func() {
		for i, v := range vars {
			w.bound[v] = were[i]
		}
	}
}
