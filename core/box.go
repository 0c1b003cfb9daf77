package core

import (
	"pavane/api"
)

// Boxes: e with each of its bound variables that is set, but of those that are free somewhere too, in a box; ErrArg if it is not Good; ErrLong if what comes out is not.
func Boxes(e api.Expr) (api.Expr, api.Errno) {
	if !Good(e) {
		return api.Expr{}, api.ErrArg
	}
	out := copied(e)
	boxesOf(&e).open(&out)
	if !Good(out) {
		return api.Expr{}, api.ErrLong
	}
	return out, api.OK
}

// boxes tells, of each variable that becomes a box, which variable has it: an ExLet's has its own.
type boxes map[int]int

func boxesOf(e *api.Expr) boxes {
	boxed := settable(e)
	next := above(e)
	out := boxes{}
	for _, x := range told(e) {
		vars, _ := binds(x)
		for _, v := range vars {
			if _, ok := boxed[v]; !ok {
				continue
			}
			out[v] = v
			if x.Kind == api.ExLambda {
				out[v] = next
				next++
			}
		}
	}
	return out
}

// settable are the variables that are set in e, and free nowhere in it.
func settable(e *api.Expr) map[int]struct{} {
	out := map[int]struct{}{}
	for _, x := range told(e) {
		if x.Kind == api.ExSet {
			out[x.V] = struct{}{}
		}
	}
	for _, v := range Free(*e) {
		delete(out, v)
	}
	return out
}

// above is the number above all variables of e, which is Good: what has no variable has 0 in its place.
func above(e *api.Expr) int {
	most := 0
	for _, x := range told(e) {
		most = max(most, x.V)
		for _, v := range x.Vars {
			most = max(most, v)
		}
	}
	return most + 1
}

// open changes e, from the inside on: what is put around an expression has what that has become.
func (b boxes) open(e *api.Expr) {
	for i := range e.Kids {
		b.open(&e.Kids[i])
	}
	box, ok := b[e.V]
	switch {
	case e.Kind == api.ExLambda:
		e.Kids[0] = b.around(e.Vars, e.Kids[0])
	case !ok:
	case e.Kind == api.ExVar:
		*e = prim(api.PUnbox, variable(box))
	case e.Kind == api.ExSet:
		*e = prim(api.PSetBox, variable(box), e.Kids[0])
	case e.Kind == api.ExLet:
		e.Kids[0] = prim(api.PBox, e.Kids[0])
	}
}

// around is a lambda's body in what makes the boxes of its variables, the first one's outermost.
func (b boxes) around(vars []int, body api.Expr) api.Expr {
	for i := len(vars) - 1; i >= 0; i-- {
		if box, ok := b[vars[i]]; ok {
			made := prim(api.PBox, variable(vars[i]))
			body = api.Expr{Kind: api.ExLet, V: box, Kids: []api.Expr{made, body}}
		}
	}
	return body
}

func variable(v int) api.Expr {
	return api.Expr{Kind: api.ExVar, V: v}
}

func prim(p int, kids ...api.Expr) api.Expr {
	return api.Expr{Kind: api.ExPrim, P: p, Kids: kids}
}
