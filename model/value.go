package model

import (
	"pavane/api"
	"pavane/datum"
	"pavane/prim"
)

// kind is what a value is.
type kind int

const (
	anAtom kind = iota
	aPair
	aProcedure
	aContinuation
	aBox
)

// identity tells things that look alike from one another: no two that one run makes have the same. All atoms have the zero one, as they have none of their own.
type identity struct {
	kind   kind
	number int
}

func (i identity) who() identity { return i }

// value is an atom, or a pointer to a pair, a procedure, a continuation, or a box.
type value interface {
	who() identity
}

// atom points to its datum, as data are large and values are handed about.
type atom struct {
	datum *api.Datum
}

func (a atom) who() identity { return identity{} }

type pair struct {
	identity
	first, rest value
}

// procedure is a lambda, and the variables around it.
type procedure struct {
	identity
	lambda *api.Expr
	in     *variable
}

// continuation is what was to be done when it was taken.
type continuation struct {
	identity
	behind *frame
}

type box struct {
	identity
	is value
}

// variable is one that is bound, and those around it.
type variable struct {
	number int
	is     value
	around *variable
}

// of is the variable of that number: of a closed expression there is one.
func (v *variable) of(number int) *variable {
	for v.number != number {
		v = v.around
	}
	return v
}

// row is values that were reckoned one behind the other, the last one first: it is never changed, as a continuation may go on with it again.
type row struct {
	is    value
	ahead *row
}

// list is the row's values, n of them, in order.
func (r *row) list(n int) []value {
	l := make([]value, n)
	for i := n - 1; i >= 0; i-- {
		l[i] = r.is
		r = r.ahead
	}
	return l
}

func atomOf(d api.Datum) value {
	return atom{datum: &d}
}

func nothing() value {
	return atomOf(api.Datum{})
}

func empty() value {
	return atomOf(datum.Items())
}

func truth(b bool) value {
	return atomOf(datum.Truth(b))
}

func isTrue(v value) bool {
	a, is := v.(atom)
	return !is || prim.True(*a.datum)
}

// isEmpty: v is the empty list, the only atom that is a list.
func isEmpty(v value) bool {
	a, is := v.(atom)
	return is && a.datum.Kind == api.List
}

// items are those of a list; ErrLong of more than most, ErrType of what is no list.
func items(v value, most int) ([]value, api.Errno) {
	var l []value
	for p, is := v.(*pair); is; p, is = v.(*pair) {
		if len(l) == most {
			return nil, api.ErrLong
		}
		l = append(l, p.first)
		v = p.rest
	}
	if !isEmpty(v) {
		return nil, api.ErrType
	}
	return l, api.OK
}
