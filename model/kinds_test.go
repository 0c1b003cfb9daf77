package model

import (
	"math"
	"slices"
	"strings"
	"testing"

	"pavane/api"
	"pavane/core"
)

// The chapter's examples.
func TestExamples(t *testing.T) {
	checkAll(t, `
		((lambda (v1) (+ v1 1)) 2) => 3
		(call/cc (lambda (v1) (+ 1 (v1 5)))) => 5
	`)
}

// P10.1: each kind of expression.
func TestKinds(t *testing.T) {
	checkAll(t, `
		5 => 5
		"a b" => "a b"
		'a => a
		'|a b| => |a b|
		#t => #t
		'() => ()
		'(1 (2 "x") . c) => (1 (2 "x") . c)
		(let v1 7 v1) => 7
		(let v1 7 (let v2 8 v1)) => 7
		(let v1 7 (let v2 8 v2)) => 8
		(let v2 (let v1 7 (+ v1 1)) (+ v2 v2)) => 16
		(let v1000000 7 v1000000) => 7
		(begin 1 2) => 2
		(begin (write 1) (write 2) (write 3) 4) => 4 | 123
		(begin (begin (write 1) (write 2)) 4) => 4 | 12
		(lambda () 1) => #p
		(lambda (v1 v2) (car v1)) => #p
		(lambda v1 (raise v1)) => #p
		((lambda () 1)) => 1
		((lambda (v1) v1) 5) => 5
		((lambda (v1 v2 v3) (cons v1 (cons v2 v3))) 5 6 7) => (5 6 . 7)
		((lambda v1 v1)) => ()
		((lambda v1 v1) 1 2 3) => (1 2 3)
		((lambda (v1 . v2) (cons v2 v1)) 1) => (() . 1)
		((lambda (v1 . v2) (cons v2 v1)) 1 2 3) => ((2 3) . 1)
		(let v1 (lambda (v2) (lambda (v3) (- v2 v3))) ((v1 10) 3)) => 7
		((let v1 5 (lambda (v2) (* v1 v2))) 6) => 30
		((if #f 1 (lambda () 2))) => 2
	`)
}

// A constant that no datum of a text is: Nothing.
func TestConstantNothing(t *testing.T) {
	check(t, constant(api.Datum{}), "", "#v")
	check(t, constant(api.Datum{Kind: api.List, Items: []api.Datum{{}}, Tail: []api.Datum{{}}}), "", "(#v . #v)")
	check(t, primitive(api.PCdr, constant(api.Datum{Kind: api.List, Items: []api.Datum{{}}, Tail: []api.Datum{{}}})), "", "#v")
}

// P10.1: a variable that is set is another value for all that know it; what ExSet tells is Nothing.
func TestSet(t *testing.T) {
	checkAll(t, `
		(let v1 1 (set! v1 2)) => #v
		(let v1 1 (begin (set! v1 2) v1)) => 2
		(let v1 1 (begin (set! v1 (set! v1 2)) v1)) => #v
		(let v1 1 (begin (set! v1 (begin (set! v1 5) (+ v1 1))) v1)) => 6
		((lambda (v1 v2) (begin (set! v1 v2) (set! v2 7) (cons v1 v2))) 1 2) => (2 . 7)
		((lambda (v1 . v2) (begin (set! v2 (cons v1 v2)) (set! v1 9) (cons v1 v2))) 1 2) => (9 1 2)
		((lambda v1 (begin (set! v1 0) v1)) 1 2) => 0
		(let v1 1 (let v2 (lambda () (set! v1 (+ v1 1))) (begin (v2) (v2) v1))) => 3
		(let v1 1 (let v2 (lambda () v1) (begin (set! v1 4) (v2)))) => 4
		(let v1 (lambda (v2) (cons (lambda () v2) (lambda (v3) (set! v2 v3)))) (let v4 (v1 1) (let v5 (v1 2) (begin ((cdr v4) 7) (cons ((car v4)) ((car v5))))))) => (7 . 2)
		(let v1 1 (let v2 v1 (begin (set! v1 5) v2))) => 1
		(let v1 1 (let v2 v1 (begin (set! v2 5) v1))) => 1
		(let v1 1 (cons v1 (begin (set! v1 2) v1))) => (1 . 2)
		(let v1 (cons 1 2) (let v2 v1 (begin (set! v1 5) v2))) => (1 . 2)
		(let v1 '#f (let v2 (lambda (v3) (if (= v3 0) 1 (* v3 (v1 (- v3 1))))) (begin (set! v1 v2) (v1 5)))) => 120
		(let v1 0 (begin (let v2 5 (set! v1 v2)) v1)) => 5
	`)
}

// P10.1: just #f is false.
func TestIf(t *testing.T) {
	checkAll(t, `
		(if #f 1 2) => 2
		(if #t 1 2) => 1
		(if 0 1 2) => 1
		(if "" 1 2) => 1
		(if '() 1 2) => 1
		(if 'f 1 2) => 1
		(if "#f" 1 2) => 1
		(if (void) 1 2) => 1
		(if '(#f) 1 2) => 1
		(if (lambda () #f) 1 2) => 1
		(if (call/cc (lambda (v1) v1)) 1 2) => 1
		(if (box #f) 1 2) => 1
		(if (unbox (box #f)) 1 2) => 2
		(if (not #f) 1 2) => 1
		(if (< 2 1) (write 1) (write 2)) => #v | 2
		(if (< 1 2) (write 1) (write 2)) => #v | 1
		(if (begin (write 0) #f) (write 1) (write 2)) => #v | 02
		(if (if #f #t #f) 1 (if #t 3 4)) => 3
	`)
	check(t, api.Expr{Kind: api.ExIf, Kids: []api.Expr{constant(api.Datum{}), parsed(t, "1"), parsed(t, "2")}}, "", "1")
}

// P10.1: all Kids are reckoned from the left on, ahead of the call or the primitive; the first error is told.
func TestOrder(t *testing.T) {
	checkAll(t, `
		((begin (write 1) (lambda (v1 v2) (write 4))) (begin (write 2) 0) (begin (write 3) 0)) => #v | 1234
		((begin (write 1) 5) (write 2)) => error: type | 12
		((begin (write 1) (lambda () 1)) (write 2)) => error: arity | 12
		(+ (begin (write 1) 1) (begin (write 2) 2)) => 3 | 12
		(cons (begin (write 1) 1) (begin (write 2) 2)) => (1 . 2) | 12
		(+ (begin (write 1) 'a) (begin (write 2) 2)) => error: type | 12
		(apply (begin (write 1) 5) (begin (write 2) 6)) => error: type | 12
		(set-car! (begin (write 1) 5) (begin (write 2) 6)) => error: type | 12
		(eq? (write 1) (write 2)) => #t | 12
		(car (car (begin (write 1) '((2) 3)))) => 2 | 1
		(+ (raise 1) (raise 2)) => error: raise 1
		(+ (car 5) (raise 2)) => error: type
		(+ 1 (raise 2)) => error: raise 2
		(+ 'a (raise 2)) => error: raise 2
		(+ (quotient 1 0) (car 5)) => error: zero
		((raise 1) (raise 2)) => error: raise 1
		(5 (raise 2)) => error: raise 2
		((lambda () 1) (raise 2) (raise 3)) => error: raise 2
		((lambda () 1) 2 (raise 3)) => error: raise 3
		(if (raise 1) (raise 2) (raise 3)) => error: raise 1
		(let v1 (raise 1) (raise 2)) => error: raise 1
		(begin (raise 1) (raise 2)) => error: raise 1
		(let v1 1 (begin (call/cc (lambda (v2) (set! v1 (v2 5)))) v1)) => 1
		(write (write 1)) => #v | 1#v
	`)
}

// P10.1: a constant that is a list is new pairs each time that it is reckoned; they may be changed, and it stays.
func TestConstantsAreNew(t *testing.T) {
	checkAll(t, `
		(eq? '(1 2) '(1 2)) => #f
		(let v1 (lambda () '(1 2)) (eq? (v1) (v1))) => #f
		(let v1 (lambda () '(1 . 2)) (eq? (v1) (v1))) => #f
		(let v1 (lambda () '((1) . 2)) (eq? (car (v1)) (car (v1)))) => #f
		(let v1 (lambda () '((1) 2)) (eq? (cdr (v1)) (cdr (v1)))) => #f
		(let v1 '(1 2) (eq? v1 v1)) => #t
		(let v1 '((1) 2) (eq? (car v1) (car v1))) => #t
		(let v1 (lambda () '()) (eq? (v1) (v1))) => #t
		(let v1 (lambda () 'a) (eq? (v1) (v1))) => #t
		(let v1 (lambda () "a") (eq? (v1) (v1))) => #f
		(let v1 (lambda () '(1 2)) (begin (set-car! (v1) 5) (set-cdr! (v1) 6) (v1))) => (1 2)
		(let v1 (lambda () '((1) 2 . 3)) (let v2 (v1) (begin (set-car! (car v2) 5) (set-cdr! (cdr v2) 6) (cons v2 (v1))))) => (((5) 2 . 6) (1) 2 . 3)
		(let v1 '(a (b) . c) (let v2 (car (cdr v1)) (begin (set-car! v2 'x) v1))) => (a (x) . c)
		(cdr (cdr '(a b . c))) => c
		(cdr (cdr '(a b))) => ()
	`)
}

// P10.1: a step for each expression that is begun, and for each procedure or continuation that is called.
func TestSteps(t *testing.T) {
	for source, want := range map[string]int{
		"5":                                    1,
		"'(1 (2) 3)":                           1,
		"(lambda (v1) (car v1))":               1,
		"(void)":                               1,
		"(read-byte)":                          1,
		"(not 1)":                              2,
		"(+ 1 2)":                              3,
		"(+ (+ 1 2) 3)":                        5,
		"(let v1 1 v1)":                        3,
		"(let v1 1 (set! v1 2))":               4,
		"(begin 1 2)":                          3,
		"(if #t 1 (+ 2 3))":                    3,
		"(if #f 1 (+ 2 3))":                    5,
		"((lambda () 1))":                      4,
		"((lambda (v1) v1) 1)":                 5,
		"((lambda v1 v1) 1 2)":                 6,
		"((lambda (v1) (+ v1 1)) 2)":           7,
		"(5 6)":                                3,
		"((lambda (v1) v1))":                   3,
		"((lambda () 1) 2)":                    4,
		"((lambda (v1 . v2) v1))":              3,
		"(call/cc (lambda (v1) 5))":            4,
		"(call/cc (lambda (v1) v1))":           4,
		"(call/cc (lambda () 5))":              3,
		"(call/cc 5)":                          2,
		"(call/cc (lambda (v1) (v1 5)))":       7,
		"(call/cc (lambda (v1) (v1)))":         6,
		"(call/cc (lambda (v1) (v1 5 6)))":     8,
		"(call/cc (call/cc (lambda (v1) v1)))": 7,
		"(apply (lambda v1 v1) '(1 2 3))":      5,
		"(apply (lambda () 1) '(1 2 3))":       4,
		"(apply 5 '(1 2 3))":                   3,
		"(apply (lambda () 1) 5)":              3,
		"(raise 1)":                            2,
		"(car 1)":                              2,
		"(+ (raise 1) 2)":                      3,
	} {
		checkSteps(t, parsed(t, source), want)
	}
}

// ErrFuel is told ahead of the step that is one more than fuel: ahead of what that step would have been, and behind what was ahead of it.
func TestFuel(t *testing.T) {
	for _, c := range []struct {
		source string
		fuel   int
		want   string
	}{
		{"5", 1, "5"}, {"5", 0, "error: fuel"}, {"5", -1, "error: fuel"}, {"5", math.MinInt, "error: fuel"}, {"5", math.MaxInt, "5"},
		{"(begin (write 1) (write 2))", 5, "#v | 12"}, {"(begin (write 1) (write 2))", 4, "error: fuel | 1"}, {"(begin (write 1) (write 2))", 3, "error: fuel | 1"},
		{"(begin (write 1) (write 2))", 2, "error: fuel"}, {"(begin (write 1) (write 2))", 0, "error: fuel"}, {"(begin (write 1) (write 2))", -7, "error: fuel"},
		// An error that needs no step of its own is told, one that comes of a call is told behind the call's step.
		{"(5)", 2, "error: type"}, {"(5)", 1, "error: fuel"},
		{"(car 5)", 2, "error: type"}, {"(car 5)", 1, "error: fuel"},
		{"((lambda () 1) 2)", 4, "error: arity"}, {"((lambda () 1) 2)", 3, "error: fuel"},
		{"(call/cc (lambda (v1) (v1)))", 6, "error: arity"}, {"(call/cc (lambda (v1) (v1)))", 5, "error: fuel"},
		{"(apply 5 6)", 3, "error: type"}, {"(apply (lambda () 1) 6)", 3, "error: type"}, {"(apply (lambda () 1) '())", 3, "error: fuel"},
		{"(raise 'x)", 2, "error: raise x"}, {"(raise 'x)", 1, "error: fuel"},
	} {
		if got := told(Run(parsed(t, c.source), nil, c.fuel)); got != c.want {
			t.Errorf("Run of %s with %d: %s, want %s", c.source, c.fuel, got, c.want)
		}
	}
}

// wrongs are expressions that are not Closed: free variables, and what is not Good.
func wrongs(t *testing.T) []api.Expr {
	one, two := parsed(t, "1"), parsed(t, "(let v1 1 v1)")
	ring := make([]api.Expr, 1)
	ring[0] = api.Expr{Kind: api.ExCall, Kids: ring}
	ringed := make([]api.Datum, 1)
	ringed[0] = api.Datum{Kind: api.List, Items: ringed}
	long := primitive(api.PVoid)
	for range api.MaxItems {
		long = seq(long, parsed(t, "1"))
	}
	out := []api.Expr{
		{}, variableOf(1), parsed(t, "(set! v1 2)"), parsed(t, "(lambda (v1) v2)"), parsed(t, "(let v1 v1 v1)"), parsed(t, "(begin (let v1 1 v1) v1)"),
		parsed(t, "(begin (write 1) v1)"), parsed(t, "(if #t 1 v7)"), parsed(t, "(let v1 1 (lambda (v1) 1))"), parsed(t, "(begin (let v1 1 1) (let v1 1 1))"),
		{Kind: -1}, {Kind: 10}, {Kind: math.MinInt}, {Kind: math.MaxInt}, {Kind: api.ExCall}, {Kind: api.ExIf}, {Kind: api.ExLet}, {Kind: api.ExSeq}, {Kind: api.ExSet}, {Kind: api.ExLambda},
		{Kind: api.ExIf, Kids: []api.Expr{one, one}}, {Kind: api.ExSeq, Kids: []api.Expr{one}}, {Kind: api.ExSeq, Kids: []api.Expr{one, one, one}},
		{Kind: api.ExLet, V: 0, Kids: []api.Expr{one, one}}, {Kind: api.ExLet, V: 1000001, Kids: []api.Expr{one, one}}, {Kind: api.ExLet, V: -1, Kids: []api.Expr{one, one}},
		lambda(true, nil, one), lambda(false, []int{0}, one), lambda(false, []int{1, 1}, one), lambda(false, []int{1}, two),
		primitive(0), primitive(39), primitive(-1), primitive(math.MaxInt, one), primitive(api.PAdd, one), primitive(api.PAdd, one, one, one), primitive(api.PVoid, one), primitive(api.PCar),
		constant(api.Datum{Kind: 6}), constant(api.Datum{Kind: api.Sym}), constant(api.Datum{Kind: api.Num, I: api.Int{L: []uint32{0}}}), constant(ringed[0]),
		constant(api.Datum{Kind: api.Num, I: api.Int{L: slices.Repeat([]uint32{1}, 65)}}), constant(api.Datum{Kind: api.Str, S: strings.Repeat("a", 1025)}),
		{Kind: api.ExConst, V: 1}, {Kind: api.ExConst, Kids: []api.Expr{one}}, {Kind: api.ExSeq, P: 1, Kids: []api.Expr{one, one}}, {Kind: api.ExSeq, Rest: true, Kids: []api.Expr{one, one}},
		ring[0], {Kind: api.ExSeq, Kids: []api.Expr{one, ring[0]}}, long,
	}
	return out
}

// P10.1: of what is not Closed ErrArg, and nothing else, whatever input and fuel there are; P10.4: of it Steps are 0, false.
func TestNotClosed(t *testing.T) {
	for i, e := range wrongs(t) {
		if core.Closed(e) {
			t.Fatalf("%d is Closed", i)
		}
		for _, fuel := range []int{math.MinInt, -1, 0, 1, 100, math.MaxInt} {
			for _, input := range [][]byte{nil, {}, {0}, []byte("abc")} {
				if got := Run(e, input, fuel); got != (api.Outcome{Err: api.ErrArg}) {
					t.Errorf("Run of %d with %d, %q: %s, want error: arg", i, fuel, input, told(got))
				}
				if steps, ok := Steps(e, input, fuel); steps != 0 || ok {
					t.Errorf("Steps of %d with %d, %q: %d, %t, want 0, false", i, fuel, input, steps, ok)
				}
			}
		}
	}
}

// What is as long, or as deep, as it may be.
func TestLargeExpressions(t *testing.T) {
	row := []api.Expr{parsed(t, "(lambda v1 (car (cdr v1)))")}
	for range api.MaxItems - 1 - core.Size(row[0]) {
		row = append(row, parsed(t, "2"))
	}
	check(t, call(row...), "", "2")
	deep, count := parsed(t, "0"), 1
	for ; count+2 <= api.MaxItems; count += 2 {
		deep = primitive(api.PAdd, parsed(t, "1"), deep)
	}
	check(t, deep, "", "2499")
	nest := parsed(t, "v1")
	for v := 1666; v > 0; v-- {
		nest = api.Expr{Kind: api.ExLet, V: v, Kids: []api.Expr{parsed(t, "1"), nest}}
	}
	check(t, nest, "", "1")
	many := make([]int, 999999)
	for i := range many {
		many[i] = i + 2
	}
	for _, rest := range []bool{false, true} {
		if got := Run(call(lambda(rest, many, parsed(t, "1")), parsed(t, "1")), nil, enough); told(got) != "error: arity" {
			t.Errorf("a lambda of %d Vars, Rest %t: %s, want error: arity", len(many), rest, told(got))
		}
	}
}
