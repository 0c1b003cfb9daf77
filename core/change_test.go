package core

import (
	"math"
	"slices"
	"testing"

	"pavane/api"
)

func TestFresh(t *testing.T) {
	cases := []struct {
		e    string
		from int
		want string
		next int
	}{
		{"v1", 1, "v1", 1},
		{"(quote v1)", 9, "(quote v1)", 9},
		{"(lambda (v1) v1)", 1, "(lambda (v1) v1)", 2},
		{"(lambda (v1) v1)", 5, "(lambda (v5) v5)", 6},
		{"(lambda (v2 v1) (v1 v2 v3))", 1, "(lambda (v1 v2) (v2 v1 v3))", 3},
		{"(lambda (v9 . v8) (set! v8 v9))", 8, "(lambda (v8 . v9) (set! v9 v8))", 10},
		{"(lambda v3 (set! v3 (set! v4 v3)))", 1000000, "(lambda v1000000 (set! v1000000 (set! v4 v1000000)))", 1000001},
		{"(let v1 v1 v1)", 7, "(let v7 v1 v7)", 8},
		{"(let v1 (set! v1 v1) (set! v1 v1))", 7, "(let v7 (set! v1 v1) (set! v7 v7))", 8},
		{"(let v5 (let v6 v1 v6) (let v7 v5 v7))", 1, "(let v1 (let v2 v1 v2) (let v3 v1 v3))", 4},
		{"(begin (lambda (v1) v1) v1)", 3, "(begin (lambda (v3) v3) v1)", 4},
		{"(begin v1 (begin (let v1 v1 v1) v1))", 3, "(begin v1 (begin (let v3 v1 v3) v1))", 4},
		{"(lambda (v3) ((lambda (v2) (v2 v3)) (lambda (v1) (v1 v2 v3))))", 10, "(lambda (v10) ((lambda (v11) (v11 v10)) (lambda (v12) (v12 v2 v10))))", 13},
		{"(if (lambda (v1) v1) (lambda (v2) v2) (%9 (lambda (v3) v3) (lambda () v3)))", 2, "(if (lambda (v2) v2) (lambda (v3) v3) (%9 (lambda (v4) v4) (lambda () v3)))", 5},
		{"(lambda (v1) (lambda (v1) v1))", 5, "(lambda (v5) (lambda (v6) v6))", 7},
		{"(lambda (v1) (begin (lambda (v1) v1) v1))", 5, "(lambda (v5) (begin (lambda (v6) v6) v5))", 7},
		{"(begin (let v1 v2 v1) (let v1 v2 v1))", 5, "(begin (let v5 v2 v5) (let v6 v2 v6))", 7},
		{"(lambda (v1 v1) v1)", 5, "(lambda (v5 v6) v5)", 7},
		{"(lambda (v1 v2) v1)", 1000000, "(lambda (v1000000 v1000001) v1000000)", 1000002},
		{"(lambda (v0 v-7) (v0 v-7 v7))", 1, "(lambda (v1 v2) (v1 v2 v7))", 3},
		// what may not be
		{"(let v1)", 4, "(let v4)", 5},
		{"(let v1 v1)", 4, "(let v4 v1)", 5},
		{"(lambda (v1 v2))", 4, "(lambda (v4 v5))", 6},
		{"(set! v1 (lambda (v1) v1) (lambda (v1) v1))", 4, "(set! v1 (lambda (v4) v4) (lambda (v5) v5))", 6},
		{"()", 4, "()", 4},
		{"?", 4, "?", 4},
		// from is none that a variable may have
		{"(lambda (v1) v1)", 0, "(lambda (v1) v1)", 0},
		{"(lambda (v1) v1)", -3, "(lambda (v1) v1)", -3},
		{"(lambda (v1) v1)", 1000001, "(lambda (v1) v1)", 1000001},
		{"(lambda (v1) v1)", math.MaxInt, "(lambda (v1) v1)", math.MaxInt},
		{"(lambda (v1) v1)", math.MinInt, "(lambda (v1) v1)", math.MinInt},
	}
	for _, c := range cases {
		got, next := Fresh(ex(c.e), c.from)
		if !exactly(got, ex(c.want)) || next != c.next {
			t.Errorf("Fresh(%s, %d): %s, %d, want %s, %d", c.e, c.from, Write(got), next, c.want, c.next)
		}
	}
}

// What Fresh and Swap do not change stays as it stands, in all Kinds.
func TestChangedAsTheyStand(t *testing.T) {
	for _, kind := range []int{math.MinInt, -1, 0, 1, 2, 3, 4, 5, 6, 7, 8, 9, 10, math.MaxInt} {
		e, want := every(kind), every(kind)
		next := 51
		switch kind {
		case api.ExLambda:
			want.Vars, want.Kids[1].Vars, next = []int{50, 51}, []int{52}, 53
		case api.ExLet:
			want.V, want.Kids[1].Vars, next = 50, []int{51}, 52
		default:
			want.Kids[1].Vars = []int{50}
		}
		if got, n := Fresh(e, 50); !exactly(got, want) || n != next {
			t.Errorf("Fresh of Kind %d: %v, %d", kind, got, n)
		}
		if got := Swap(e, 99, ex("v1")); !exactly(got, e) {
			t.Errorf("Swap of Kind %d: %v", kind, got)
		}
		want = every(kind)
		want.Kids[0] = ex("(quote 1)")
		if kind == api.ExVar {
			want = ex("(quote 1)")
		}
		if got := Swap(e, 4, ex("(quote 1)")); !exactly(got, want) {
			t.Errorf("Swap of v4 in Kind %d: %v", kind, got)
		}
	}
}

func TestSwap(t *testing.T) {
	cases := []struct {
		e    string
		v    int
		to   string
		want string
	}{
		{"v1", 1, "v2", "v2"},
		{"v1", 2, "v3", "v1"},
		{"v1", 1, "(v1 v1)", "(v1 v1)"},
		{"(v1 v2 v1)", 1, "(v1 v3)", "((v1 v3) v2 (v1 v3))"},
		{"(quote v1)", 1, "v2", "(quote v1)"},
		{"(set! v1 v1)", 1, "v2", "(set! v1 v2)"},
		{"(lambda (v1) v1)", 1, "v2", "(lambda (v1) v1)"},
		{"(lambda (v2) v1)", 1, "v2", "(lambda (v2) v2)"},
		{"(lambda (v2 . v1) v1)", 1, "v2", "(lambda (v2 . v1) v1)"},
		{"(let v1 v1 v1)", 1, "(quote 5)", "(let v1 (quote 5) v1)"},
		{"(let v2 v1 v1)", 1, "(quote 5)", "(let v2 (quote 5) (quote 5))"},
		{"(begin (lambda (v1) v1) v1)", 1, "v2", "(begin (lambda (v1) v1) v2)"},
		{"(begin v1 (begin (let v1 v2 v1) v1))", 1, "v3", "(begin v3 (begin (let v1 v2 v1) v3))"},
		{"(lambda (v1) (begin (lambda (v1) v1) v1))", 1, "v2", "(lambda (v1) (begin (lambda (v1) v1) v1))"},
		{"(if v1 (lambda v1 v1) (%9 v1 (lambda (v3) v1)))", 1, "(lambda (v3) v3)", "(if (lambda (v3) v3) (lambda v1 v1) (%9 (lambda (v3) v3) (lambda (v3) (lambda (v3) v3))))"},
		{"(v0 v-1)", 0, "v1", "(v1 v-1)"},
		{"(v0 v-1)", -1, "v1", "(v0 v1)"},
		{"(v1000000 v1000001)", 1000001, "v1", "(v1000000 v1)"},
		{"v1", 1, "?", "?"},
		{"v1", 1, "(if)", "(if)"},
		{"(let v1 v1)", 1, "v2", "(let v1 v2)"},
		{"(set! v2 v1 v1)", 1, "v2", "(set! v2 v2 v2)"},
		{"()", 1, "v2", "()"},
	}
	for _, c := range cases {
		if got := Swap(ex(c.e), c.v, ex(c.to)); !exactly(got, ex(c.want)) {
			t.Errorf("Swap(%s, %d, %s): %s, want %s", c.e, c.v, c.to, Write(got), c.want)
		}
	}
	long := row(mostLooked + 1)
	if got := Swap(ex("(v1 v2)"), 1, long); !exactly(got.Kids[0], long) || !exactly(got.Kids[1], ex("v2")) {
		t.Error("Swap to a long expression is another")
	}
}

// An ExVar with Kids is swapped as a whole.
func TestSwapOfVariableWithKids(t *testing.T) {
	e := api.Expr{Kind: api.ExSeq, Kids: []api.Expr{{Kind: api.ExVar, V: 1, Kids: exs("v1 \n (v1 v2)")}, {Kind: api.ExVar, V: 2, Kids: exs("v1")}}}
	want := api.Expr{Kind: api.ExSeq, Kids: []api.Expr{ex("(v1 v3)"), {Kind: api.ExVar, V: 2, Kids: exs("(v1 v3)")}}}
	if got := Swap(e, 1, ex("(v1 v3)")); !exactly(got, want) {
		t.Errorf("Swap: %v", got)
	}
}

func TestAtAndPut(t *testing.T) {
	e := "(if v1 (lambda (v2) (v2 (quote (5 . 6)) v3)) (let v4 v5 (begin v6 v7)))"
	cases := []struct {
		path []int
		at   string
		put  string
	}{
		{nil, e, "(%20 v9)"},
		{[]int{}, e, "(%20 v9)"},
		{[]int{0}, "v1", "(if (%20 v9) (lambda (v2) (v2 (quote (5 . 6)) v3)) (let v4 v5 (begin v6 v7)))"},
		{[]int{1}, "(lambda (v2) (v2 (quote (5 . 6)) v3))", "(if v1 (%20 v9) (let v4 v5 (begin v6 v7)))"},
		{[]int{1, 0}, "(v2 (quote (5 . 6)) v3)", "(if v1 (lambda (v2) (%20 v9)) (let v4 v5 (begin v6 v7)))"},
		{[]int{1, 0, 1}, "(quote (5 . 6))", "(if v1 (lambda (v2) (v2 (%20 v9) v3)) (let v4 v5 (begin v6 v7)))"},
		{[]int{1, 0, 2}, "v3", "(if v1 (lambda (v2) (v2 (quote (5 . 6)) (%20 v9))) (let v4 v5 (begin v6 v7)))"},
		{[]int{2}, "(let v4 v5 (begin v6 v7))", "(if v1 (lambda (v2) (v2 (quote (5 . 6)) v3)) (%20 v9))"},
		{[]int{2, 0}, "v5", "(if v1 (lambda (v2) (v2 (quote (5 . 6)) v3)) (let v4 (%20 v9) (begin v6 v7)))"},
		{[]int{2, 1, 1}, "v7", "(if v1 (lambda (v2) (v2 (quote (5 . 6)) v3)) (let v4 v5 (begin v6 (%20 v9))))"},
	}
	for _, c := range cases {
		if got, ok := At(ex(e), c.path); !ok || !exactly(got, ex(c.at)) {
			t.Errorf("At %v: %s, %t, want %s", c.path, Write(got), ok, c.at)
		}
		if got, ok := Put(ex(e), c.path, ex("(%20 v9)")); !ok || !exactly(got, ex(c.put)) {
			t.Errorf("Put %v: %s, %t, want %s", c.path, Write(got), ok, c.put)
		}
	}
	for _, path := range [][]int{{-1}, {3}, {0, 0}, {0, -1}, {1, 1}, {1, 0, 3}, {1, 0, -1}, {1, 0, 1, 0}, {2, 2}, {2, 1, 2}, {1, -1, 0}, {math.MaxInt}, {math.MinInt}, {0, math.MaxInt, 0}, make([]int, 1000)} {
		if got, ok := At(ex(e), path); ok || !isZeroExpr(got) {
			t.Errorf("At %v: %s, %t", path, Write(got), ok)
		}
		if got, ok := Put(ex(e), path, ex("v9")); ok || !isZeroExpr(got) {
			t.Errorf("Put %v: %s, %t", path, Write(got), ok)
		}
	}
}

// At and Put go through Kids of expressions of any Kind, and any length, as they stand.
func TestAtAndPutAsTheyStand(t *testing.T) {
	for i, e := range slices.Concat(samples(), longs()) {
		if got, ok := At(e, nil); !ok || !exactly(got, e) {
			t.Errorf("At the beginning of expression %d: %t", i, ok)
		}
		if got, ok := Put(ex("v1"), nil, e); !ok || !exactly(got, e) {
			t.Errorf("Put of expression %d: %t", i, ok)
		}
		if got, ok := Put(ex("(v1 v2 v3)"), []int{1}, e); !ok || !exactly(got, api.Expr{Kind: api.ExCall, Kids: []api.Expr{ex("v1"), e, ex("v3")}}) {
			t.Errorf("Put of expression %d into another: %t", i, ok)
		}
		if len(e.Kids) == 0 {
			continue
		}
		last := len(e.Kids) - 1
		if got, ok := At(e, []int{last}); !ok || !exactly(got, e.Kids[last]) {
			t.Errorf("At the last Kid of expression %d: %t", i, ok)
		}
		want := e
		want.Kids = slices.Clone(e.Kids)
		want.Kids[last] = ex("v8")
		if got, ok := Put(e, []int{last}, ex("v8")); !ok || !exactly(got, want) {
			t.Errorf("Put at the last Kid of expression %d: %t", i, ok)
		}
		if got, ok := Put(e, []int{last + 1}, ex("v8")); ok || !isZeroExpr(got) {
			t.Errorf("Put behind the last Kid of expression %d: %t", i, ok)
		}
	}
	path := make([]int, deepestGiven-1)
	e := chain(deepestGiven, ex("v3"))
	if got, ok := At(e, path); !ok || !exactly(got, ex("v3")) {
		t.Errorf("At of a deep one: %t", ok)
	}
	if got, ok := Put(e, path, ex("v4")); !ok || !exactly(got, chain(deepestGiven, ex("v4"))) {
		t.Errorf("Put in a deep one: %t", ok)
	}
	if _, ok := At(e, append(path, 0)); ok {
		t.Error("At of a deep one, one deeper, is there")
	}
}
