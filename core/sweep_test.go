package core

import (
	"fmt"
	"maps"
	"slices"
	"strings"
	"testing"

	"pavane/api"
)

// heads are expressions without their Kids, and how many Kids they are to have.
func heads() map[int][]api.Expr {
	one := exs("(set! v1) \n (set! v2) \n (lambda () v1) \n (lambda (v1)) \n (lambda (v2)) \n (lambda (v1 v2)) \n (lambda (v2 . v1)) \n (lambda v1) \n ()")
	two := exs("(let v1) \n (let v2) \n (begin) \n () \n (%1)")
	for _, l := range [][]api.Expr{one, two} {
		for i := range l {
			l[i].Kids = nil
		}
	}
	return map[int][]api.Expr{0: exs("(quote 1) \n v1 \n v2"), 1: one, 2: two, 3: exs("(if)")}
}

// sweep tells all expressions of at most so many, of the heads above.
func sweep(most int) []api.Expr {
	all := heads()
	bySize := make([][]api.Expr, most+1)
	for size := 1; size <= most; size++ {
		for kids, l := range all {
			for _, row := range rows(bySize, kids, size-1) {
				for _, e := range l {
					e.Kids = row
					bySize[size] = append(bySize[size], e)
				}
			}
		}
	}
	return slices.Concat(bySize...)
}

// rows are all lists of so many expressions that have size in all.
func rows(bySize [][]api.Expr, count, size int) [][]api.Expr {
	if count == 0 && size == 0 {
		return [][]api.Expr{nil}
	}
	var out [][]api.Expr
	for first := 1; count > 0 && first <= size; first++ {
		for _, rest := range rows(bySize, count-1, size-first) {
			for _, e := range bySize[first] {
				out = append(out, append([]api.Expr{e}, rest...))
			}
		}
	}
	return out
}

// plainFree is Free, from the inside on: what is free in Kids, but for what is bound there.
func plainFree(e api.Expr) map[int]int {
	out := map[int]int{}
	if e.Kind == api.ExVar || e.Kind == api.ExSet {
		out[e.V] = 1
	}
	for i, kid := range e.Kids {
		free := plainFree(kid)
		if e.Kind == api.ExLambda {
			for _, v := range e.Vars {
				delete(free, v)
			}
		}
		if e.Kind == api.ExLet && i == 1 {
			delete(free, e.V)
		}
		maps.Copy(out, free)
	}
	return out
}

func plainBound(e api.Expr) []int {
	out := slices.Clone(e.Vars)
	if e.Kind == api.ExLet {
		out = append(out, e.V)
	}
	for _, kid := range e.Kids {
		out = append(out, plainBound(kid)...)
	}
	return out
}

func plainSwap(e api.Expr, v int, to api.Expr) api.Expr {
	if e.Kind == api.ExVar && e.V == v {
		return to
	}
	e.Kids = slices.Clone(e.Kids)
	for i, kid := range e.Kids {
		if !(e.Kind == api.ExLambda && slices.Contains(e.Vars, v) || e.Kind == api.ExLet && i == 1 && e.V == v) {
			e.Kids[i] = plainSwap(kid, v, to)
		}
	}
	return e
}

// nameFree is e's text, in which a bound variable is told by how many are bound between, and none by its number.
func nameFree(e api.Expr, bound []int) string {
	name := fmt.Sprint("free ", e.V)
	for i := range bound {
		if bound[len(bound)-1-i] == e.V {
			name = fmt.Sprint("bound ", i)
			break
		}
	}
	out := fmt.Sprint("(", e.Kind)
	switch e.Kind {
	case api.ExVar, api.ExSet:
		out += " " + name
	case api.ExLambda:
		out += fmt.Sprint(" ", len(e.Vars), e.Rest)
	}
	for i, kid := range e.Kids {
		inner := bound
		if e.Kind == api.ExLambda {
			inner = slices.Concat(bound, e.Vars)
		} else if e.Kind == api.ExLet && i == 1 {
			inner = slices.Concat(bound, []int{e.V})
		}
		out += " " + nameFree(kid, inner)
	}
	return out + ")"
}

func TestSweepVariables(t *testing.T) {
	for _, e := range sweep(5) {
		free := slices.Sorted(maps.Keys(plainFree(e)))
		bound := plainBound(e)
		if !slices.Equal(Free(e), free) || !slices.Equal(Bound(e), bound) || Size(e) != nodes(e) {
			t.Errorf("%s: Free %v, Bound %v, Size %d", Write(e), Free(e), Bound(e), Size(e))
		}
		slices.Sort(bound)
		good := len(slices.Compact(bound)) == len(plainBound(e))
		if Good(e) != good || Closed(e) != (good && len(free) == 0) {
			t.Errorf("%s: Good %t, Closed %t", Write(e), Good(e), Closed(e))
		}
		if to := ex("(v1 v3)"); !exactly(Swap(e, 1, to), plainSwap(e, 1, to)) {
			t.Errorf("Swap of %s: %s", Write(e), Write(Swap(e, 1, to)))
		}
	}
}

// P8.6: Fresh is Alike.
func TestSweepFresh(t *testing.T) {
	for _, e := range sweep(5) {
		for _, from := range []int{1, 2, 3, 1000000} {
			got, next := Fresh(e, from)
			bound := Bound(got)
			for i, v := range bound {
				if v != from+i {
					t.Errorf("Fresh(%s, %d) binds %v", Write(e), from, bound)
				}
			}
			if next != from+len(bound) || len(bound) != len(plainBound(e)) {
				t.Errorf("Fresh(%s, %d): next is %d", Write(e), from, next)
			}
			// From 1 or 2 on a number may be a free one's.
			if from > 2 && (!Alike(got, e) || nameFree(got, nil) != nameFree(e, nil) || !slices.Equal(Free(got), Free(e))) {
				t.Errorf("Fresh(%s, %d): %s", Write(e), from, Write(got))
			}
			if len(Free(e)) == 0 && !Alike(e, got) {
				t.Errorf("Fresh(%s, %d) is not Alike: %s", Write(e), from, Write(got))
			}
		}
	}
}

func TestSweepAlike(t *testing.T) {
	all := sweep(3)
	for _, a := range all {
		for _, b := range all {
			if Same(a, b) != exactly(a, b) {
				t.Errorf("Same(%s, %s): %t", Write(a), Write(b), Same(a, b))
			}
			if want := nameFree(a, nil) == nameFree(b, nil); Alike(a, b) != want {
				t.Errorf("Alike(%s, %s): %t", Write(a), Write(b), !want)
			}
		}
	}
}

// P8.6: Boxes of what is Good and closed is Good and closed, without an ExSet; and it comes to the same.
func TestSweepBoxes(t *testing.T) {
	for _, e := range sweep(5) {
		inner, next := Fresh(e, 3)
		outer := ex("((lambda (v1) (let v2 (quote 7) v0)) (quote 5))")
		outer.Kids[0].Kids[0].Kids[1] = inner
		got, err := Boxes(outer)
		if err != api.OK || !Closed(outer) || !Closed(got) || strings.Contains(Write(got), "set! ") {
			t.Errorf("Boxes of %s: %s, %v", Write(outer), Write(got), err)
		}
		if was, is := outcome(outer), outcome(got); was != is {
			t.Errorf("%s comes to %s, its Boxes to %s", Write(outer), was, is)
		}
		if bound := Bound(got); slices.Max(bound) >= next+len(bound) {
			t.Errorf("Boxes of %s binds %v", Write(outer), bound)
		}
		if Good(e) {
			testFreeStay(t, e)
		}
	}
}

// testFreeStay: variables that are free in e, or never set, are as they were.
func testFreeStay(t *testing.T, e api.Expr) {
	got, err := Boxes(e)
	if err != api.OK || !Good(got) || !slices.Equal(Free(got), Free(e)) {
		t.Errorf("Boxes of %s: %s, %v", Write(e), Write(got), err)
	}
	boxes := 0
	for _, v := range []int{1, 2} {
		set := fmt.Sprint("set! v", v)
		left := strings.Count(Write(e), set)
		if left > 0 && slices.Contains(Bound(e), v) && !slices.Contains(Free(e), v) {
			boxes++
			left = 0
		}
		if strings.Count(Write(got), set) != left {
			t.Errorf("Boxes of %s has not %d of %s: %s", Write(e), left, set, Write(got))
		}
	}
	if strings.Count(Write(got), "(%35 ") != boxes {
		t.Errorf("Boxes of %s makes not %d: %s", Write(e), boxes, Write(got))
	}
}
