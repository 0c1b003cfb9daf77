package expand

import (
	"testing"

	"pavane/api"
	"pavane/datum"
	"pavane/whole"
	"pavane/write"
)

// function is what a lambda comes to.
type function struct {
	lambda api.Expr
	scope  *cells
}

// cells are what variables are, in one another.
type cells struct {
	around *cells
	value  map[int]any
}

func (c *cells) of(v int) *cells {
	for c.value[v] == nil {
		c = c.around
	}
	return c
}

// runner counts steps, so that a program that should come to an end does.
type runner struct{ steps int }

// run is what an expression comes to: a datum, or a function. It knows what the programs below need, and panics at all else.
func (r *runner) run(e api.Expr, in *cells) any {
	r.steps++
	if r.steps > 100000 {
		panic("no end")
	}
	switch e.Kind {
	case api.ExConst:
		return e.D
	case api.ExVar:
		return in.of(e.V).value[e.V]
	case api.ExSet:
		x := r.run(e.Kids[0], in)
		in.of(e.V).value[e.V] = x
		return api.Datum{}
	case api.ExIf:
		if isFalse(r.run(e.Kids[0], in)) {
			return r.run(e.Kids[2], in)
		}
		return r.run(e.Kids[1], in)
	case api.ExLambda:
		return function{e, in}
	case api.ExLet:
		return r.run(e.Kids[1], &cells{in, map[int]any{e.V: r.run(e.Kids[0], in)}})
	case api.ExSeq:
		r.run(e.Kids[0], in)
		return r.run(e.Kids[1], in)
	}
	var l []any
	for _, kid := range e.Kids {
		l = append(l, r.run(kid, in))
	}
	if e.Kind == api.ExPrim {
		return runPrimitive(e.P, l)
	}
	return r.call(l[0].(function), l[1:])
}

func isFalse(x any) bool {
	d, ok := x.(api.Datum)
	return ok && d.Kind == api.Bool && !d.B
}

func (r *runner) call(f function, args []any) any {
	c := &cells{f.scope, map[int]any{}}
	for i, v := range f.lambda.Vars {
		if f.lambda.Rest && i == len(f.lambda.Vars)-1 {
			rest := datum.Items()
			for j := len(args) - 1; j >= i; j-- {
				rest = datum.Pair(args[j].(api.Datum), rest)
			}
			c.value[v] = rest
			break
		}
		c.value[v] = args[i]
	}
	return r.run(f.lambda.Kids[0], c)
}

func runPrimitive(p int, l []any) any {
	d := make([]api.Datum, 2)
	for i, x := range l {
		d[i], _ = x.(api.Datum)
	}
	a, b := d[0], d[1]
	first, rest, ok := datum.Split(a)
	switch p {
	case api.PAdd:
		return api.Datum{Kind: api.Num, I: whole.Add(a.I, b.I)}
	case api.PSub:
		return api.Datum{Kind: api.Num, I: whole.Sub(a.I, b.I)}
	case api.PMul:
		return api.Datum{Kind: api.Num, I: whole.Mul(a.I, b.I)}
	case api.PEq:
		return datum.Truth(whole.Cmp(a.I, b.I) == 0)
	case api.PLess:
		return datum.Truth(whole.Cmp(a.I, b.I) < 0)
	case api.PEqQ:
		return datum.Truth(datum.Same(a, b))
	case api.PCons:
		return datum.Pair(a, b)
	case api.PCar:
		return first
	case api.PCdr:
		return rest
	case api.PNullQ:
		return datum.Truth(!ok && a.Kind == api.List)
	case api.PNot:
		return datum.Truth(isFalse(l[0]))
	case api.PVoid:
		return api.Datum{}
	}
	panic(p)
}

func checkRun(t *testing.T, s, want string) {
	t.Helper()
	defer func() {
		if r := recover(); r != nil {
			t.Errorf("%s comes to nothing: %v", s, r)
		}
	}()
	got, ok := (&runner{}).run(made(t, s), nil).(api.Datum)
	if !ok || write.Write(got) != want {
		t.Errorf("%s comes to %s, want %s", s, write.Write(got), want)
	}
}

const swap = "(define-syntax swap! (syntax-rules () ((_ a b) (let ((tmp a)) (set! a b) (set! b tmp))))) "

func TestProgramsMean(t *testing.T) {
	for _, row := range [][2]string{
		{"(+ 1 2)", "3"},
		{"(- 7)", "-7"},
		{"(- 10 1 2 3)", "4"},
		{"(* 2 3 4)", "24"},
		{"(let ((x 1)) (+ x 1))", "2"},
		{swap + "(let ((tmp 1) (other 2)) (swap! tmp other) (cons tmp other))", "(2 . 1)"},
		{swap + "(let ((a 1) (b 2)) (swap! a b) (cons a b))", "(2 . 1)"},
		{swap + "(let ((let 1) (set! 2)) (swap! let set!) (cons let set!))", "(2 . 1)"},
		{swap + "(define tmp 1) (define x 2) (swap! x tmp) (cons tmp x)", "(2 . 1)"},
		{"(let ((x 1)) (or #f x))", "1"},
		{"(let ((x 5)) (or (= x 4) x))", "5"},
		{"(let ((if 1)) (or #f if))", "1"},
		{"(let* ((x 1) (y (+ x 1)) (x (* y 10))) (cons x y))", "(20 . 2)"},
		{"(letrec ((even (lambda (n) (if (= n 0) #t (odd (- n 1))))) (odd (lambda (n) (if (= n 0) #f (even (- n 1)))))) (even 101))", "#f"},
		{"(define (fact n) (if (< n 1) 1 (* n (fact (- n 1))))) (fact 20)", "2432902008176640000"},
		{"(let loop ((i 0) (l '())) (if (= i 5) l (loop (+ i 1) (cons i l))))", "(4 3 2 1 0)"},
		{"(do ((i 0 (+ i 1)) (s 0 (+ s i))) ((= i 5) s))", "10"},
		{"(do ((i 0 (+ i 1)) (l '()) (n 1 (* n 2))) ((= i 3) (cons n l)) (set! l (cons i l)))", "(8 2 1 0)"},
		{"(let ((loop 3)) (do ((i 0 (+ i 1))) ((= i loop) loop)))", "3"},
		{"(case (+ 1 2) ((1 2) 'low) ((3 4) 'high) (else 'none))", "high"},
		{"(case 9 ((1 2) 'low) ((3 4) 'high) (else 'none))", "none"},
		{"(case 'b ((a) 1) ((b c) 2))", "2"},
		{"(cond ((= 1 2) 'a) ((cons 1 2) => car) (else 'b))", "1"},
		{"(cond (#f 1) (#f => car) (#f) (else 2))", "2"},
		{"(cond (#f 1) (7))", "7"},
		{"(cond (#f) (8) (else 9))", "8"},
		{"(cond (#f 1))", "#v"},
		{"(when (= 1 1) 2 3)", "3"},
		{"(when (= 1 2) 2 3)", "#v"},
		{"(unless (= 1 2) 2 3)", "3"},
		{"(unless (= 1 1) 2 3)", "#v"},
		{"(and 1 2 3)", "3"},
		{"(and 1 #f 3)", "#f"},
		{"((lambda (a . b) (cons b a)) 1 2 3)", "((2 3) . 1)"},
		{"((lambda a a) 1 2 3)", "(1 2 3)"},
		{"(define (list . l) l) (list 1 (list) 'a)", "(1 () a)"},
		{"((lambda () (define x 1) (define (get) x) (set! x 2) (get)))", "2"},
		{"(define x 1) (define y x) (define x 2) (cons x y)", "(2 . 1)"},
		{"((lambda () (define x 1) (define y x) (define x 2) y))", "#v"},
		{"(define x 1)", "#v"},
		{"1 (begin 2 3)", "3"},
		{"(define-syntax while (syntax-rules () ((_ c b ...) (let loop () (when c b ... (loop)))))) (define i 0) (define loop 5) (while (< i loop) (set! i (+ i 1))) i", "5"},
		{"(define-syntax my-or (syntax-rules () ((_) #f) ((_ e) e) ((_ e r ...) (let ((t e)) (if t t (my-or r ...)))))) (let ((t 3)) (my-or #f #f t))", "3"},
		{"(define-syntax for (syntax-rules (in) ((_ x in l b ...) (let next ((r l)) (if (null? r) (void) (let ((x (car r))) b ... (next (cdr r)))))))) (define s 0) (for x in '(1 2 3) (set! s (+ s x))) (for r in '(10 20) (set! s (+ s r))) s", "36"},
		{"(define-syntax be-like-begin (syntax-rules () ((_ name) (define-syntax name (syntax-rules () ((_ e (... ...)) (begin e (... ...)))))))) (be-like-begin seq) (seq 1 2 3)", "3"},
		{"(let ((x 'outer)) (let-syntax ((m (syntax-rules () ((_) x)))) (let ((x 'inner)) (m))))", "outer"},
		{"(let ((=> #f)) (cond (#t => 'ok)))", "ok"},
		{"(define-syntax ten (syntax-rules () ((_) 10))) (define-syntax plus (syntax-rules () ((_ a b) (+ a b)))) (let ((+ *)) (plus (ten) (+ 2 3)))", "16"},
		{"(define-syntax jot (syntax-rules () ((_ (a b) ...) '((b a) ...)))) (jot (1 2) (x y))", "((2 1) (y x))"},
	} {
		checkRun(t, row[0], row[1])
	}
}
