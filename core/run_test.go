package core

import (
	"strconv"
	"strings"
	"testing"

	"pavane/api"
	"pavane/expand"
	"pavane/reader"
	"pavane/whole"
)

// pair and closure are values; so are ints, bools, none (an empty list), nothing, and pointers to what is in a box.
type (
	pair    struct{ car, cdr any }
	none    struct{}
	nothing struct{}
	closure struct {
		lambda api.Expr
		around *cell
	}
)

// cell is what a variable is, and the variables around it.
type cell struct {
	v      int
	is     any
	around *cell
}

// wrong is what a run that comes to an error panics with.
type wrong string

// outcome is what e comes to, as a text.
func outcome(e api.Expr) (out string) {
	defer func() {
		if r := recover(); r != nil {
			out = "error: " + string(r.(wrong))
		}
	}()
	fuel := 100000
	return shownValue(run(e, nil, &fuel))
}

func shownValue(x any) string {
	switch x := x.(type) {
	case int:
		return strconv.Itoa(x)
	case bool:
		return strconv.FormatBool(x)
	case none:
		return "()"
	case nothing:
		return "#v"
	case *pair:
		return "(" + shownValue(x.car) + " . " + shownValue(x.cdr) + ")"
	case *closure:
		return "#p"
	}
	return "#b"
}

func (c *cell) of(v int) *cell {
	for c.v != v {
		c = c.around
	}
	return c
}

// run knows what the tests need, and panics at all else.
func run(e api.Expr, in *cell, fuel *int) any {
	*fuel--
	if *fuel < 0 {
		panic(wrong("fuel"))
	}
	switch e.Kind {
	case api.ExConst:
		return valueOf(e.D)
	case api.ExVar:
		return in.of(e.V).is
	case api.ExSet:
		in.of(e.V).is = run(e.Kids[0], in, fuel)
		return nothing{}
	case api.ExIf:
		if run(e.Kids[0], in, fuel) == false {
			return run(e.Kids[2], in, fuel)
		}
		return run(e.Kids[1], in, fuel)
	case api.ExLambda:
		return &closure{e, in}
	case api.ExLet:
		return run(e.Kids[1], &cell{e.V, run(e.Kids[0], in, fuel), in}, fuel)
	case api.ExSeq:
		run(e.Kids[0], in, fuel)
		return run(e.Kids[1], in, fuel)
	}
	var l []any
	for _, kid := range e.Kids {
		l = append(l, run(kid, in, fuel))
	}
	if e.Kind == api.ExPrim {
		return primitive(e.P, l)
	}
	return call(l[0], l[1:], fuel)
}

func valueOf(d api.Datum) any {
	switch d.Kind {
	case api.Num:
		n, _ := whole.Small(d.I)
		return n
	case api.Bool:
		return d.B
	case api.List:
		return none{}
	}
	return nothing{}
}

func call(f any, args []any, fuel *int) any {
	c, ok := f.(*closure)
	if !ok {
		panic(wrong("type"))
	}
	vars, in := c.lambda.Vars, c.around
	if c.lambda.Rest {
		last := len(vars) - 1
		if len(args) < last {
			panic(wrong("arity"))
		}
		var rest any = none{}
		for i := len(args) - 1; i >= last; i-- {
			rest = &pair{args[i], rest}
		}
		args = append(args[:last:last], rest)
	}
	if len(args) != len(vars) {
		panic(wrong("arity"))
	}
	for i, v := range vars {
		in = &cell{v, args[i], in}
	}
	return run(c.lambda.Kids[0], in, fuel)
}

func primitive(p int, l []any) any {
	switch p {
	case api.PVoid:
		return nothing{}
	case api.PCons:
		return &pair{l[0], l[1]}
	case api.PNot:
		return l[0] == false
	case api.PNullQ:
		return l[0] == none{}
	case api.PBox:
		return &l[0]
	case api.PUnbox:
		return *l[0].(*any)
	case api.PSetBox:
		*l[0].(*any) = l[1]
		return nothing{}
	case api.PCar:
		return l[0].(*pair).car
	case api.PCdr:
		return l[0].(*pair).cdr
	}
	a, isA := l[0].(int)
	b, isB := l[1].(int)
	if !isA || !isB {
		panic(wrong("type"))
	}
	switch p {
	case api.PAdd:
		return a + b
	case api.PSub:
		return a - b
	case api.PMul:
		return a * b
	case api.PEq:
		return a == b
	case api.PLess:
		return a < b
	}
	panic("no primitive of the tests")
}

// programs are sources in which variables of all sorts are set, and what they come to.
const programs = `
	(+ 1 2) => 3
	(define x 1) (set! x (+ x 1)) x => 2
	(define (f n) (if (= n 0) 1 (* n (f (- n 1))))) (f 10) => 3628800
	(define (even n) (if (= n 0) #t (odd (- n 1)))) (define (odd n) (if (= n 0) #f (even (- n 1)))) (even 101) => false
	(define (counter) (let ((n 0)) (lambda () (set! n (+ n 1)) n))) (define a (counter)) (define b (counter)) (a) (a) (b) (cons (a) (b)) => (3 . 2)
	(define (f . l) (set! l (cons 1 l)) l) (f 2 3) => (1 . (2 . (3 . ())))
	(define (f a b . c) (set! b a) (set! c b) (set! a 9) (cons a (cons b c))) (f 1 2 3 4) => (9 . (1 . 1))
	(define (f x) (define y x) (set! x (+ y 1)) (lambda (z) (set! y (+ y z)) (+ x y))) (define g (f 10)) (g 1) (g 2) => 24
	(do ((i 0 (+ i 1)) (s 0 (+ s i))) ((= i 10) s)) => 45
	(let loop ((i 0)) (if (< i 5) (loop (+ i 1)) i)) => 5
	(define k 0) (define (inc) (set! k (+ k 1)) k) (let* ((a (inc)) (b (inc)) (c (inc))) (cons a (cons b c))) => (1 . (2 . 3))
	(define-syntax swap! (syntax-rules () ((_ a b) (let ((tmp a)) (set! a b) (set! b tmp))))) (define tmp 1) (define y 2) (swap! tmp y) (cons tmp y) => (2 . 1)
	(letrec ((f (lambda (n) (if (= n 0) '() (cons n (f (- n 1))))))) (f 3)) => (3 . (2 . (1 . ())))
	(define x 5) (define (f) x) (set! x 6) (define x 7) (f) => 7
	(define x 1) (set! x (set! x 2)) x => #v
	(define (f x) ((lambda () (set! x 1))) x) (f 5) => 1
	((lambda (x) (set! x x) (x)) 5) => error: type
	((lambda (x y) (set! x y) x) 5) => error: arity
`

// P8.6, and that boxes hold what variables did, of programs as they are made.
func TestBoxesOfPrograms(t *testing.T) {
	for _, line := range lines(programs) {
		source, want, _ := strings.Cut(line, " => ")
		l, _, err := reader.All(source)
		e, _, err2 := expand.Program(l)
		if err != api.OK || err2 != api.OK || !Closed(e) {
			t.Fatalf("%s: %v, %v, Closed %t", source, err, err2, Closed(e))
		}
		got, err := Boxes(e)
		if err != api.OK || !Closed(got) || strings.Contains(Write(got), "set! ") {
			t.Errorf("Boxes of %s: %s, %v", source, Write(got), err)
		}
		fresh, _ := Fresh(got, 500)
		if was, is, renamed := outcome(e), outcome(got), outcome(fresh); was != want || is != want || renamed != want || !Alike(fresh, got) {
			t.Errorf("%s: %s, its Boxes %s, Fresh %s, want %s", source, was, is, renamed, want)
		}
	}
}
