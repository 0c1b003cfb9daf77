package core

import (
	"math"
	"slices"
	"testing"

	"pavane/api"
	"pavane/datum"
)

func TestFreeAndBound(t *testing.T) {
	cases := []struct {
		e           string
		free, bound []int
	}{
		{"(quote v1)", nil, nil},
		{"v5", []int{5}, nil},
		{"(set! v5 v3)", []int{3, 5}, nil},
		{"(v3 v1 v2 v3 v1)", []int{1, 2, 3}, nil},
		{"(lambda (v1) v1)", nil, []int{1}},
		{"(lambda (v3 v1 v2) v2)", nil, []int{3, 1, 2}},
		{"(lambda (v3 . v1) (v1 v2 v3))", []int{2}, []int{3, 1}},
		{"(lambda v2 (set! v2 v1))", []int{1}, []int{2}},
		{"(lambda (v1) (set! v1 (set! v2 v1)))", []int{2}, []int{1}},
		{"(let v1 v2 v1)", []int{2}, []int{1}},
		{"(let v1 v1 v1)", []int{1}, []int{1}},
		{"(let v1 (set! v1 v2) v1)", []int{1, 2}, []int{1}},
		{"(let v1 v2 (set! v1 v3))", []int{2, 3}, []int{1}},
		{"(let v5 (let v4 v5 v4) (let v3 v4 v3))", []int{4, 5}, []int{5, 4, 3}},
		{"(begin (lambda (v1) v1) v1)", []int{1}, []int{1}},
		{"(begin v1 (lambda (v1) v1))", []int{1}, []int{1}},
		{"(begin (let v1 v2 v1) (set! v1 v2))", []int{1, 2}, []int{1}},
		{"(lambda (v9) ((lambda (v8) (let v1 v8 v9)) (lambda (v7) (lambda (v2) v6))))", []int{6}, []int{9, 8, 1, 7, 2}},
		{"(if (let v3 v4 v3) (lambda (v2 v1) v2) (%9 (lambda v7 v7) (lambda () v8)))", []int{4, 8}, []int{3, 2, 1, 7}},
		// what is bound twice, within one another and beside one another
		{"(lambda (v1) (lambda (v1) v1))", nil, []int{1, 1}},
		{"(lambda (v1) (begin (lambda (v1) v1) v1))", nil, []int{1, 1}},
		{"(let v1 v2 (begin (let v1 v1 v1) v1))", []int{2}, []int{1, 1}},
		{"(begin (lambda (v1) v1) (let v1 v1 v1))", []int{1}, []int{1, 1}},
		{"(begin (lambda (v2 v2) v2) v2)", []int{2}, []int{2, 2}},
		{"(begin (lambda (v2 . v2) v2) v3)", []int{3}, []int{2, 2}},
		// Kids of any Kind, as they stand
		{"(lambda (v1))", nil, []int{1}},
		{"(let v1)", nil, []int{1}},
		{"(let v1 v1)", []int{1}, []int{1}},
		{"(set! v4)", []int{4}, nil},
		{"(set! v4 v5 (lambda (v6) v7))", []int{4, 5, 7}, []int{6}},
		{"(if v1)", []int{1}, nil},
		{"()", nil, nil},
		{"(begin v3 v2 v1)", []int{1, 2, 3}, nil},
		{"(%77 v3 (lambda (v1) v1))", []int{3}, []int{1}},
		// numbers at the ends, and beyond
		{"(v1000001 v1000000 v0 v-1)", []int{-1, 0, 1000000, 1000001}, nil},
		{"(lambda (v0 v1000001) (v0 v1000001 v1))", []int{1}, []int{0, 1000001}},
	}
	for _, c := range cases {
		e := ex(c.e)
		if got := Free(e); !slices.Equal(got, c.free) {
			t.Errorf("Free of %s: %v, want %v", c.e, got, c.free)
		}
		if got := Bound(e); !slices.Equal(got, c.bound) {
			t.Errorf("Bound of %s: %v, want %v", c.e, got, c.bound)
		}
		if got := Closed(e); got != (Good(e) && len(c.free) == 0) {
			t.Errorf("Closed of %s: %t", c.e, got)
		}
	}
}

// Only what a Kind names stands there: of other Kinds V and Vars are none, but Kids are gone through.
func TestFreeAndBoundOfKinds(t *testing.T) {
	free := map[int][]int{api.ExVar: {4}, api.ExSet: {4}, api.ExLambda: {4}, api.ExLet: {4}}
	bound := map[int][]int{api.ExLambda: {5, 6, 7}, api.ExLet: {4, 7}}
	for _, kind := range []int{math.MinInt, -1, 0, 1, 2, 3, 4, 5, 6, 7, 8, 9, 10, math.MaxInt} {
		e := every(kind)
		if want, ok := bound[kind]; !slices.Equal(Bound(e), want) && (ok || !slices.Equal(Bound(e), []int{7})) {
			t.Errorf("Bound of Kind %d: %v", kind, Bound(e))
		}
		if got := Free(e); !slices.Equal(got, []int{4}) {
			t.Errorf("Free of Kind %d: %v", kind, got)
		}
		e.Kids = e.Kids[1:]
		want := []int(nil)
		if kind == api.ExVar || kind == api.ExSet {
			want = free[kind]
		}
		if got := Free(e); !slices.Equal(got, want) {
			t.Errorf("Free of Kind %d without ExVar: %v, want %v", kind, got, want)
		}
	}
	many := []int{math.MaxInt, math.MinInt, 3}
	e := api.Expr{Kind: api.ExLambda, Vars: many, Kids: []api.Expr{{Kind: api.ExCall, Kids: []api.Expr{{Kind: api.ExVar, V: math.MinInt}, {Kind: api.ExVar, V: math.MaxInt - 1}}}}}
	if got := Free(e); !slices.Equal(got, []int{math.MaxInt - 1}) || !slices.Equal(Bound(e), many) {
		t.Errorf("Free of greatest numbers: %v, Bound %v", got, Bound(e))
	}
}

func TestClosed(t *testing.T) {
	closed := exs(`
		(quote 5)
		(lambda (v1) v1)
		(lambda (v1 . v2) (begin (set! v1 v2) (let v3 v1 v3)))
		(lambda v1 (%9 v1 v1))
		((lambda (v1) v1) (lambda (v2) v2))
		(%38)
	`)
	for _, e := range closed {
		if !Closed(e) {
			t.Errorf("Closed of %s is false", Write(e))
		}
	}
	open := exs(`
		v1
		(set! v1 (quote 5))
		(let v1 v1 v1)
		(begin (lambda (v1) v1) v1)
		(lambda (v1) v2)
		(lambda (v1) (lambda (v1) v1))
		(lambda (v1 v1) v1)
		(lambda (v0) v0)
		(lambda (v1))
		?
		()
	`)
	for _, e := range slices.Concat(open, longs(), endless()) {
		if Closed(e) {
			t.Errorf("Closed of %s is true", mostly(e))
		}
	}
}

func TestSame(t *testing.T) {
	all := append(samples(), exs(`
		(lambda (v1 v2) v1)
		(lambda (v1 v2) v2)
		(lambda (v2 v1) v1)
		(lambda (v2 v1) v2)
		(if v1 v2 v3)
		(if v1 v3 v2)
		(v1 (v2 v3))
		((v1 v2) v3)
		(v1 v2 v3)
	`)...)
	for i, a := range all {
		for j, b := range all {
			// Data that are too deep are not the Same as any.
			if want := exactly(a, b) && datum.Depth(a.D) > 0; Same(a, b) != want {
				t.Errorf("Same of %d and %d: %t: %s, %s", i, j, !want, mostly(a), mostly(b))
			}
		}
	}
}

// Constants are the Same as package datum has it.
func TestSameConstants(t *testing.T) {
	same := [][]api.Int{
		{{}, {Neg: true}, {L: []uint32{0}}},
		{{L: []uint32{5}}, {L: []uint32{5, 0}}},
		{{Neg: true, L: []uint32{5}}},
	}
	of := func(n api.Int) api.Expr {
		return api.Expr{Kind: api.ExCall, Kids: []api.Expr{{Kind: api.ExConst, D: api.Datum{Kind: api.Num, I: n}}}}
	}
	for i, group := range same {
		for j, other := range same {
			for _, a := range group {
				for _, b := range other {
					if Same(of(a), of(b)) != (i == j) || Alike(of(a), of(b)) != (i == j) {
						t.Errorf("Same of %v and %v is not %t", a, b, i == j)
					}
				}
			}
		}
	}
	deep := api.Expr{Kind: api.ExConst, D: deepDatum()}
	if Same(deep, deep) || Alike(deep, deep) {
		t.Error("a constant that is too deep is the Same as itself")
	}
}

// A change of any field, at any depth, is seen by Same, and by Alike, but for numbers of bound variables.
func TestSameDiffers(t *testing.T) {
	changes := map[string]func(e *api.Expr){
		"Kind":    func(e *api.Expr) { e.Kind += 20 },
		"D":       func(e *api.Expr) { e.D.Items[0].S = "z" },
		"D Tail":  func(e *api.Expr) { e.D.Tail = nil },
		"D Kind":  func(e *api.Expr) { e.D.Kind = 2 },
		"V":       func(e *api.Expr) { e.V = 44 },
		"Vars":    func(e *api.Expr) { e.Vars[1] = 66 },
		"order":   func(e *api.Expr) { slices.Reverse(e.Vars) },
		"fewer":   func(e *api.Expr) { e.Vars = e.Vars[:1] },
		"more":    func(e *api.Expr) { e.Vars = append(e.Vars, 9) },
		"Rest":    func(e *api.Expr) { e.Rest = false },
		"P":       func(e *api.Expr) { e.P = api.PSub },
		"Kids":    func(e *api.Expr) { e.Kids[0].V = 3 },
		"a Kid":   func(e *api.Expr) { e.Kids = append(e.Kids, ex("v4")) },
		"no Kids": func(e *api.Expr) { e.Kids = nil },
		"deep":    func(e *api.Expr) { e.Kids[1].Kids[0].D.Items[0].I.L[0]++ },
	}
	for what, change := range changes {
		for kind := -1; kind <= 10; kind++ {
			a, b := every(kind), every(kind)
			change(&b)
			renamed := what == "V" && kind == api.ExLet || (what == "Vars" || what == "order") && kind == api.ExLambda
			wraps := []func(e api.Expr) api.Expr{
				func(e api.Expr) api.Expr { return e },
				func(e api.Expr) api.Expr { return api.Expr{Kind: api.ExSeq, Kids: []api.Expr{ex("v1"), e}} },
				func(e api.Expr) api.Expr {
					return api.Expr{Kind: api.ExLambda, Vars: []int{1}, Kids: []api.Expr{{Kind: 10, Kids: []api.Expr{e}}}}
				},
			}
			for i, wrap := range wraps {
				if Same(wrap(a), wrap(b)) || Same(wrap(b), wrap(a)) || !Same(wrap(a), wrap(every(kind))) {
					t.Errorf("Kind %d, wrapped %d: Same does not see %s", kind, i, what)
				}
				// What V an ExLet with these Kids has, stands nowhere in it.
				if what != "V" && what != "Vars" && what != "order" && Alike(wrap(a), wrap(b)) {
					t.Errorf("Kind %d, wrapped %d: Alike does not see %s", kind, i, what)
				}
				if renamed && !Alike(wrap(a), wrap(b)) {
					t.Errorf("Kind %d, wrapped %d: not Alike, but for %s", kind, i, what)
				}
			}
		}
	}
}

func TestAlike(t *testing.T) {
	alike := [][2]string{
		{"(lambda (v1) v1)", "(lambda (v2) v2)"},
		{"(lambda (v1) v1)", "(lambda (v1000000) v1000000)"},
		{"(lambda (v1 . v2) (v2 v1))", "(lambda (v2 . v1) (v1 v2))"},
		{"(lambda v4 (set! v4 v9))", "(lambda v8 (set! v8 v9))"},
		{"(let v1 v3 v1)", "(let v2 v3 v2)"},
		{"(let v1 v1 v1)", "(let v2 v1 v2)"},
		{"(begin (lambda (v1) v1) v1)", "(begin (lambda (v7) v7) v1)"},
		{"(lambda (v1) (lambda (v2) (v1 v2 v3)))", "(lambda (v2) (lambda (v1) (v2 v1 v3)))"},
		{"(lambda (v1) (lambda (v1) v1))", "(lambda (v1) (lambda (v2) v2))"},
		{"(let v5 (let v6 v1 v6) (let v7 v5 v7))", "(let v7 (let v5 v1 v5) (let v6 v7 v6))"},
		{"(v1000000 (lambda (v1) v1))", "(v1000000 (lambda (v2) v2))"},
		{"(v999999 (lambda (v1) v1))", "(v999999 (lambda (v2) v2))"},
		{"(v999999 v1000001 (lambda (v1 v2) v2))", "(v999999 v1000001 (lambda (v2 v1) v1))"},
		{"(v0 v-5 (lambda (v1) v1))", "(v0 v-5 (lambda (v2) v2))"},
		// From 1000000 on the bound variable is numbered as the free one is: the chapter's words leave those that are not below it out.
		{"(v999999 (lambda (v1) v1000000))", "(v999999 (lambda (v1) v1))"},
		// 1 to 3 are bound, from the number above no free variable below 1000000 on.
		{"(v1000000 (lambda (v3 v2 v1) v2))", "(v1000000 (lambda (v6 v5 v4) v5))"},
	}
	for _, c := range alike {
		a, b := ex(c[0]), ex(c[1])
		if !Alike(a, b) || !Alike(b, a) || !Alike(a, a) {
			t.Errorf("Alike(%s, %s) is false", c[0], c[1])
		}
	}
	unlike := [][2]string{
		{"v1", "v2"},
		{"(lambda (v1) v1)", "(lambda (v1) v2)"},
		{"(lambda (v9) v1)", "(lambda (v9) v9)"},
		{"(lambda (v1) v2)", "(lambda (v2) v2)"},
		{"(lambda (v1) v2)", "(lambda (v1) v3)"},
		{"(lambda (v1 v2) v1)", "(lambda (v1 v2) v2)"},
		{"(lambda (v1 v2) v1)", "(lambda (v2 v1) v1)"},
		{"(lambda (v1) v1)", "(lambda v1 v1)"},
		{"(lambda (v1 v2) v1)", "(lambda (v1 . v2) v1)"},
		{"(lambda (v1) v1)", "(lambda (v1 v2) v1)"},
		{"(lambda (v1) (lambda (v2) v1))", "(lambda (v1) (lambda (v2) v2))"},
		{"(lambda (v1) (lambda (v1) v1))", "(lambda (v1) (lambda (v2) v1))"},
		{"(let v1 v1 v1)", "(let v1 v2 v1)"},
		{"(let v1 v3 v1)", "(let v1 v3 v3)"},
		{"(let v1 v3 (set! v1 v3))", "(let v1 v3 (set! v3 v3))"},
		{"(begin (lambda (v1) v1) v1)", "(begin (lambda (v1) v1) v2)"},
		{"(v1000000 (lambda (v1) v1))", "(v1000001 (lambda (v1) v1))"},
		{"(v999998 (lambda (v1) v1))", "(v999998 (lambda (v1) v1000000))"},
		{"(v999999 (lambda (v1) v1))", "(v999999 (lambda (v1) v1000001))"},
		{"(lambda (v1) v1000000)", "(lambda (v1) v1)"},
		{"(quote 1)", "(quote 2)"},
		{"(v1 v2)", "(begin v1 v2)"},
		{"(%1 v1 v2)", "(%2 v1 v2)"},
	}
	for _, c := range unlike {
		a, b := ex(c[0]), ex(c[1])
		if Alike(a, b) || Alike(b, a) {
			t.Errorf("Alike(%s, %s) is true", c[0], c[1])
		}
	}
}
