package core

import (
	"math"
	"strconv"
	"strings"
	"testing"

	"pavane/api"
)

func TestWrite(t *testing.T) {
	for _, s := range lines(`
		(quote 5)
		(quote -123456789012345678901234567890)
		(quote #t)
		(quote (a "b" |a b| (c . d) ()))
		(quote "a\\n\"")
		(quote ())
		v1
		v1000000
		v1000001
		v0
		v-5
		(set! v5 v6)
		(set! v-5 v6)
		(if v1 v2 v3)
		(lambda () v1)
		(lambda (v1) v1)
		(lambda (v1 v2) v1)
		(lambda (v1 v2 v3) v1)
		(lambda v1 v1)
		(lambda (v1 . v2) v1)
		(lambda (v1 v2 . v3) v1)
		(lambda (v0 . v-1) v1)
		(v1)
		(v1 v2)
		(v1 v2 (v3 (v4)))
		((lambda (v1) v1) (quote 5))
		(%38)
		(%20 v1)
		(%1 v1 v2)
		(%0)
		(%-7 v1)
		(%99 v1 v2 v3)
		(let v5 v1 v2)
		(let v0 v1 v2)
		(begin v1 v2)
		(begin (if v1 (set! v2 (let v3 v4 (begin v5 v6))) (lambda v7 (%9 v8 ?))) (v9))
		?
		(? ?)
	`) {
		if got := Write(ex(s)); got != s {
			t.Errorf("Write of %s: %s", s, got)
		}
	}
}

// Kids are written as they are, too few or too many.
func TestWriteKids(t *testing.T) {
	heads := map[string]api.Expr{
		"(set! v5":             {Kind: api.ExSet, V: 5},
		"(if":                  {Kind: api.ExIf},
		"(lambda ()":           {Kind: api.ExLambda},
		"(lambda (v5)":         {Kind: api.ExLambda, Vars: []int{5}},
		"(lambda (v5 v6)":      {Kind: api.ExLambda, Vars: []int{5, 6}},
		"(lambda v5":           {Kind: api.ExLambda, Vars: []int{5}, Rest: true},
		"(lambda (v5 . v6)":    {Kind: api.ExLambda, Vars: []int{5, 6}, Rest: true},
		"(lambda (v5 v6 . v7)": {Kind: api.ExLambda, Vars: []int{5, 6, 7}, Rest: true},
		"(%35":                 {Kind: api.ExPrim, P: 35},
		"(let v5":              {Kind: api.ExLet, V: 5},
		"(begin":               {Kind: api.ExSeq},
	}
	for head, e := range heads {
		for n := range 5 {
			e.Kids = exs("v1 \n (v2 v3) \n (quote a) \n (begin) \n ()")[:n]
			want := head + strings.Join([]string{"", " v1", " (v2 v3)", " (quote a)", " (begin)"}[:n+1], "") + ")"
			if got := Write(e); got != want {
				t.Errorf("Write with %d Kids: %s, want %s", n, got, want)
			}
		}
	}
	for n, want := range []string{"()", "(v1)", "(v1 v2)", "(v1 v2 ())"} {
		e := api.Expr{Kind: api.ExCall, Kids: exs("v1 \n v2 \n ()")[:n]}
		if got := Write(e); got != want {
			t.Errorf("Write of a call with %d Kids: %s, want %s", n, got, want)
		}
	}
}

// What a Kind does not name is not written, nor what another Kind has.
func TestWriteKinds(t *testing.T) {
	d := `(quote (a (99999999999) . "b"))`
	kids := " v4 (lambda (v7) (quote (12345678901 c))))"
	want := map[int]string{
		api.ExConst: d, api.ExVar: "v4", api.ExSet: "(set! v4" + kids, api.ExIf: "(if" + kids, api.ExLambda: "(lambda (v5 . v6)" + kids,
		api.ExCall: "(" + kids[1:], api.ExPrim: "(%1" + kids, api.ExLet: "(let v4" + kids, api.ExSeq: "(begin" + kids,
	}
	for _, kind := range []int{math.MinInt, -1, 0, 1, 2, 3, 4, 5, 6, 7, 8, 9, 10, math.MaxInt} {
		text, ok := want[kind]
		if !ok {
			text = "?"
		}
		if got := Write(every(kind)); got != text {
			t.Errorf("Write of Kind %d: %s, want %s", kind, got, text)
		}
		if got := Write(api.Expr{Kind: api.ExIf, Kids: []api.Expr{every(kind)}}); got != "(if "+text+")" {
			t.Errorf("Write of Kind %d in another: %s, want %s", kind, got, text)
		}
	}
}

func TestWriteAtEnds(t *testing.T) {
	if got := Write(api.Expr{Kind: api.ExConst}); got != "(quote #v)" {
		t.Errorf("Write of Nothing: %s", got)
	}
	if got := Write(api.Expr{Kind: api.ExConst, D: deepDatum()}); got != "(quote )" {
		t.Errorf("Write of a constant that is too deep to be written: %s", got)
	}
	if got := Write(api.Expr{Kind: api.ExLambda, Rest: true, Kids: exs("v1")}); got != "(lambda () v1)" {
		t.Errorf("Write of a Rest lambda without a variable: %s", got)
	}
	for _, n := range []int{math.MinInt, math.MaxInt} {
		if got := Write(api.Expr{Kind: api.ExPrim, P: n, Kids: []api.Expr{{Kind: api.ExVar, V: n}}}); got != "(%"+strconv.Itoa(n)+" v"+strconv.Itoa(n)+")" {
			t.Errorf("Write of %d: %s", n, got)
		}
	}
	if got := Write(chain(deepestLooked, ex("v1"))); got != strings.Repeat("(%22 ", deepestLooked-1)+"v1"+strings.Repeat(")", deepestLooked-1) {
		t.Errorf("Write of a deep expression: %d bytes", len(got))
	}
}
