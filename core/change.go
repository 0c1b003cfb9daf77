package core

import (
	"slices"

	"pavane/api"
	"pavane/datum"
)

// Fresh: e with its bound variables numbered from that number on, and the next number; e and from, if from is no variable's number, or e is too long or too deep.
func Fresh(e api.Expr, from int) (api.Expr, int) {
	out := copied(e)
	if !isVariable(from) || !isLookedAt(e) {
		return out, from
	}
	next := from
	for x, bound := range placed(&out) {
		switch x.Kind {
		case api.ExVar, api.ExSet:
			if n := bound[x.V]; n > 0 {
				x.V = from + n - 1
			}
		case api.ExLambda:
			x.Vars = numbers(next, len(x.Vars))
			next += len(x.Vars)
		case api.ExLet:
			x.V = next
			next++
		}
	}
	return out, next
}

// numbers are so many, from from on.
func numbers(from, count int) []int {
	out := make([]int, count)
	for i := range out {
		out[i] = from + i
	}
	return out
}

// Swap: e, in which each ExVar v that is free is to; e, if it is too long or too deep.
func Swap(e api.Expr, v int, to api.Expr) api.Expr {
	out := copied(e)
	if !isLookedAt(e) {
		return out
	}
	// What is put in is put in behind the walk, which else would look for v in it, too.
	var places []*api.Expr
	for x, bound := range placed(&out) {
		if x.Kind == api.ExVar && x.V == v && bound[v] == 0 {
			places = append(places, x)
		}
	}
	for _, x := range places {
		*x = copied(to)
	}
	return out
}

// At: the expression that Kids of these places, one in another, lead to; false if there is none.
func At(e api.Expr, path []int) (api.Expr, bool) {
	x := &e
	for _, i := range path {
		if !hasKid(x, i) {
			return api.Expr{}, false
		}
		x = &x.Kids[i]
	}
	return copied(*x), true
}

// Put: e with x at that path; false if there is none.
func Put(e api.Expr, path []int, x api.Expr) (api.Expr, bool) {
	out := copied(e)
	place := &out
	for _, i := range path {
		if !hasKid(place, i) {
			return api.Expr{}, false
		}
		// What is beyond the document's bound was not copied, and is not to be changed.
		place.Kids = slices.Clone(place.Kids)
		place = &place.Kids[i]
	}
	*place = copied(x)
	return out, true
}

func hasKid(e *api.Expr, i int) bool {
	return i >= 0 && i < len(e.Kids)
}

// copied is e in new memory. What is beyond the document's bound, and need not end, is told as it is.
func copied(e api.Expr) api.Expr {
	size, ok := measure(&e, given())
	if !ok {
		return e
	}
	// All lists of Kids are cut from one, read from its begin as it grows: it has room for all, so that they stay in their places.
	room := make([]api.Expr, 0, size-1)
	part := func(x *api.Expr) {
		*x = copiedAlone(*x)
		kids := x.Kids
		x.Kids = nil
		if len(kids) > 0 {
			from := len(room)
			room = append(room, kids...)
			x.Kids = room[from:len(room):len(room)]
		}
	}
	part(&e)
	for i := 0; i < len(room); i++ {
		part(&room[i])
	}
	return e
}

// copiedAlone is e in new memory, but for its Kids.
func copiedAlone(e api.Expr) api.Expr {
	e.D = copiedDatum(e.D)
	e.Vars = slices.Clone(e.Vars)
	return e
}

// copiedDatum is d in new memory. Items copies data with no bound but the document's; what is beyond it is told as it is. Most expressions have nothing there that lies in lists.
func copiedDatum(d api.Datum) api.Datum {
	if len(d.I.L)+len(d.Items)+len(d.Tail) == 0 {
		// Empty lists may have room behind their end that is not to be told.
		d.I.L, d.Items, d.Tail = nil, nil, nil
		return d
	}
	l := datum.Items(d).Items
	if len(l) == 0 {
		return d
	}
	return l[0]
}
