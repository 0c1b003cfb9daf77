package rule

import (
	"slices"

	"pavane/api"
	"pavane/core"
	"pavane/prim"
)

// place is where a step is to be done. What stands there need not be Good: the rules look at its parts by kid alone, and what they make of it then is not told.
type place struct {
	x    api.Expr
	step Step
	next int
}

func (h place) made() (api.Expr, bool) {
	switch h.step.Rule {
	case Fold:
		return h.fold()
	case Branch:
		return h.branch()
	case Drop:
		return h.drop()
	case Unused:
		return h.unused()
	case Copy:
		return h.copied()
	case Beta:
		return h.beta()
	case Inline:
		return h.inline()
	case Again:
		return h.again()
	case Not:
		return h.not()
	case Float:
		return h.float()
	case Ahead:
		return h.ahead()
	case Known:
		return h.known()
	case Lift:
		return h.lift()
	}
	return none()
}

func none() (api.Expr, bool) { return api.Expr{}, false }

// kid is what Kids of these places, one in another, lead to, as it lies there; one of no Kind, if there is none.
func (h place) kid(path ...int) api.Expr {
	x := h.x
	for _, i := range path {
		if i >= len(x.Kids) {
			return api.Expr{}
		}
		x = x.Kids[i]
	}
	return x
}

// part is kid in new memory.
func (h place) part(path ...int) api.Expr {
	x, _ := core.At(h.x, path)
	return x
}

// put is x with what else there is at that path.
func (h place) put(with api.Expr, path ...int) (api.Expr, bool) {
	return core.Put(h.x, path, with)
}

// nth is the path of the N-th expression of which wanted holds in that one of Kids, from the left, outer ones first.
func (h place) nth(in int, wanted func(api.Expr) bool) ([]int, bool) {
	met, looked := 0, 0
	var found []int
	var ends func(e api.Expr, path ...int) bool
	ends = func(e api.Expr, path ...int) bool {
		if wanted(e) {
			met++
		}
		if met == h.step.N {
			found = path
			return true
		}
		// What has more expressions than may be is not Good, and need not end.
		looked++
		if looked > api.MaxItems {
			return true
		}
		for i, kid := range e.Kids {
			if ends(kid, append(path, i)...) {
				return true
			}
		}
		return false
	}
	if h.step.N > 0 {
		ends(h.kid(in), in)
	}
	return found, len(found) > 0
}

func let(v int, is, in api.Expr) api.Expr {
	return api.Expr{Kind: api.ExLet, V: v, Kids: []api.Expr{is, in}}
}

func (h place) fold() (api.Expr, bool) {
	if h.x.Kind != api.ExPrim || !prim.Plain(h.x.P) {
		return none()
	}
	var l []api.Datum
	for _, kid := range h.x.Kids {
		if !isAtom(kid) {
			return none()
		}
		l = append(l, kid.D)
	}
	d, err := prim.Do(h.x.P, l)
	if err != api.OK {
		return none()
	}
	return api.Expr{Kind: api.ExConst, D: d}, true
}

func (h place) branch() (api.Expr, bool) {
	test := h.kid(0)
	if h.x.Kind != api.ExIf || test.Kind != api.ExConst {
		return none()
	}
	if prim.True(test.D) {
		return h.part(1), true
	}
	return h.part(2), true
}

func (h place) not() (api.Expr, bool) {
	test := h.kid(0)
	if h.x.Kind != api.ExIf || test.Kind != api.ExPrim || test.P != api.PNot {
		return none()
	}
	return api.Expr{Kind: api.ExIf, Kids: []api.Expr{h.part(0, 0), h.part(2), h.part(1)}}, true
}

func (h place) drop() (api.Expr, bool) {
	if h.x.Kind != api.ExSeq || !Idle(h.kid(0)) {
		return none()
	}
	return h.part(1), true
}

func (h place) unused() (api.Expr, bool) {
	if h.x.Kind != api.ExLet || !Idle(h.kid(0)) || slices.Contains(core.Free(h.kid(1)), h.x.V) {
		return none()
	}
	return h.part(1), true
}

func (h place) copied() (api.Expr, bool) {
	if h.x.Kind != api.ExLet || !Simple(h.kid(0)) {
		return none()
	}
	return core.Swap(h.kid(1), h.x.V, h.kid(0)), true
}

func (h place) beta() (api.Expr, bool) {
	called := h.kid(0)
	if h.x.Kind != api.ExCall || called.Kind != api.ExLambda || called.Rest || len(called.Vars) != len(h.x.Kids)-1 {
		return none()
	}
	out := h.part(0, 0)
	for i, v := range slices.Backward(called.Vars) {
		out = let(v, h.part(i+1), out)
	}
	return out, true
}

func (h place) inline() (api.Expr, bool) {
	if h.x.Kind != api.ExLet || h.kid(0).Kind != api.ExLambda {
		return none()
	}
	path, ok := h.nth(1, func(e api.Expr) bool {
		return e.Kind == api.ExCall && startsWith(e, h.x.V)
	})
	if !ok {
		return none()
	}
	fresh, _ := core.Fresh(h.kid(0), h.next)
	return h.put(fresh, append(path, 0)...)
}

// startsWith: the first of e's Kids is that variable.
func startsWith(e api.Expr, v int) bool {
	return len(e.Kids) > 0 && e.Kids[0].Kind == api.ExVar && e.Kids[0].V == v
}

func (h place) again() (api.Expr, bool) {
	first := h.kid(0)
	if h.x.Kind != api.ExLet || !isShort(first) {
		return none()
	}
	path, ok := h.nth(1, func(e api.Expr) bool {
		// Same goes through all of e: what can't be it is left out ahead of that.
		return isShort(e) && core.Same(e, first)
	})
	if !ok {
		return none()
	}
	return h.put(api.Expr{Kind: api.ExVar, V: h.x.V}, path...)
}

// isShort: a Pure primitive of nothing but what is Simple.
func isShort(e api.Expr) bool {
	return e.Kind == api.ExPrim && prim.Pure(e.P) && areSimple(e.Kids)
}

func areSimple(l []api.Expr) bool {
	return !slices.ContainsFunc(l, func(e api.Expr) bool { return !Simple(e) })
}

func (h place) float() (api.Expr, bool) {
	inner := h.kid(0)
	if h.x.Kind != api.ExLet || inner.Kind != api.ExLet {
		return none()
	}
	return let(inner.V, h.part(0, 0), let(h.x.V, h.part(0, 1), h.part(1))), true
}

func (h place) ahead() (api.Expr, bool) {
	if h.x.Kind != api.ExLet || h.kid(0).Kind != api.ExSeq {
		return none()
	}
	return api.Expr{Kind: api.ExSeq, Kids: []api.Expr{h.part(0, 0), let(h.x.V, h.part(0, 1), h.part(1))}}, true
}

func (h place) known() (api.Expr, bool) {
	test := h.kid(0)
	if h.x.Kind != api.ExIf || test.Kind != api.ExVar {
		return none()
	}
	side := 1
	if h.step.No {
		side = 2
	}
	path, ok := h.nth(side, func(e api.Expr) bool {
		return e.Kind == api.ExIf && startsWith(e, test.V)
	})
	if !ok {
		return none()
	}
	return h.put(h.part(append(path, side)...), path...)
}

func (h place) lift() (api.Expr, bool) {
	n := h.step.N
	if h.x.Kind != api.ExPrim && h.x.Kind != api.ExCall || n < 1 {
		return none()
	}
	inner := h.kid(n - 1)
	if inner.Kind != api.ExLet || !areSimple(h.x.Kids[:n-1]) {
		return none()
	}
	out, ok := h.put(h.part(n-1, 1), n-1)
	return let(inner.V, h.part(n-1, 0), out), ok
}
