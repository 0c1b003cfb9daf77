package expand

import (
	"testing"

	"pavane/api"
)

func TestBodies(t *testing.T) {
	checkAll(t, [][2]string{
		{"(lambda () 1)", "(lambda () '1)"},
		{"(lambda () 1 2 3)", "(lambda () (begin '1 (begin '2 '3)))"},
		{"(lambda () (define x 1) x)", "(lambda () (let v1 '#v (begin (set! v1 '1) v1)))"},
		{"(lambda () (define x 1) (define y 2) x y)", "(lambda () (let v1 '#v (let v2 '#v (begin (set! v1 '1) (begin (set! v2 '2) (begin v1 v2))))))"},
		{"(lambda (x) (define y x) (define x y) x)", "(lambda (v1) (let v2 '#v (let v3 '#v (begin (set! v2 v3) (begin (set! v3 v2) v3)))))"},
		{"(lambda () (define (f) (g)) (define (g) (f)) f)", "(lambda () (let v1 '#v (let v2 '#v (begin (set! v1 (lambda () (v2))) (begin (set! v2 (lambda () (v1))) v1)))))"},
		// Functions.
		{"(lambda () (define (f) 1) f)", "(lambda () (let v1 '#v (begin (set! v1 (lambda () '1)) v1)))"},
		{"(lambda () (define (f x y) x) f)", "(lambda () (let v1 '#v (begin (set! v1 (lambda (v2 v3) v2)) v1)))"},
		{"(lambda () (define (f . x) x) f)", "(lambda () (let v1 '#v (begin (set! v1 (lambda v2 v2)) v1)))"},
		{"(lambda () (define (f x . y) y) f)", "(lambda () (let v1 '#v (begin (set! v1 (lambda (v2 . v3) v3)) v1)))"},
		{"(lambda () (define (f f) f) f)", "(lambda () (let v1 '#v (begin (set! v1 (lambda (v2) v2)) v1)))"},
		{"(lambda () (define (f) (define x 1) 2 x) f)", "(lambda () (let v1 '#v (begin (set! v1 (lambda () (let v2 '#v (begin (set! v2 '1) (begin '2 v2))))) v1)))"},
		{"(lambda (lambda) (define (f) 1) f)", "(lambda (v1) (let v2 '#v (begin (set! v2 (lambda () '1)) v2)))"},
		// begin, in one another too, with definitions and expressions or none at all.
		{"(lambda () (begin) 1)", "(lambda () '1)"},
		{"(lambda () (begin (begin) (begin (begin))) 1)", "(lambda () '1)"},
		{"(lambda () (begin (define x 1)) x)", "(lambda () (let v1 '#v (begin (set! v1 '1) v1)))"},
		{"(lambda () (begin (define x 1) (begin (define y 2))) (define z 3) x)", "(lambda () (let v1 '#v (let v2 '#v (let v3 '#v (begin (set! v1 '1) (begin (set! v2 '2) (begin (set! v3 '3) v1)))))))"},
		{"(lambda () (begin (define x 1) x))", "(lambda () (let v1 '#v (begin (set! v1 '1) v1)))"},
		{"(lambda () (begin (define x 1) x 2) 3)", "(lambda () (let v1 '#v (begin (set! v1 '1) (begin v1 (begin '2 '3)))))"},
		{"(lambda () (begin 1 2) 3)", "(lambda () (begin '1 (begin '2 '3)))"},
		{"(lambda () (begin (define-syntax m (syntax-rules () ((_) 1)))) (m))", "(lambda () '1)"},
		// Macros of its own, and macros that become definitions.
		{"(lambda () (define-syntax m (syntax-rules () ((_ x) (define x 1)))) (m x) (m y) x)", "(lambda () (let v1 '#v (let v2 '#v (begin (set! v1 '1) (begin (set! v2 '1) v1)))))"},
		{"(lambda () (define-syntax m (syntax-rules () ((_ x) (begin (define x 1) (define y 2))))) (m x) x)", "(lambda () (let v1 '#v (let v2 '#v (begin (set! v1 '1) (begin (set! v2 '2) v1)))))"},
		{"(lambda () (define-syntax m (syntax-rules () ((_ (f x ...) e) (define (f x ...) e)))) (m (f x y) y) f)", "(lambda () (let v1 '#v (begin (set! v1 (lambda (v2 v3) v3)) v1)))"},
		{"(lambda () (define-syntax m (syntax-rules () ((_ n) (define-syntax n (syntax-rules () ((_) 1)))))) (m n) (n))", "(lambda () '1)"},
		{"(define-syntax m (syntax-rules () ((_ a) (n a)))) (define-syntax n (syntax-rules () ((_ a) (begin (define a 1))))) (lambda () (m x) x)", "(lambda () (let v1 '#v (begin (set! v1 '1) v1)))"},
		{"(lambda () (define-syntax def (syntax-rules () ((_ . x) (define . x)))) (def x 1) (def (f) x) f)", "(lambda () (let v1 '#v (let v2 '#v (begin (set! v1 '1) (begin (set! v2 (lambda () v1)) v2)))))"},
		{"(lambda () (define-syntax m (syntax-rules () ((_) (define x 1)))) (m) 2)", "(lambda () (let v1 '#v (begin (set! v1 '1) '2)))"},
		{"(lambda () (and (begin 1 2)) 3)", "(lambda () (begin '1 (begin '2 '3)))"},
		{"(lambda () 0 (and (begin 1 2)) 3)", "(lambda () (begin '0 (begin (begin '1 '2) '3)))"},
		// A name of a form or a macro that is a variable makes no definition.
		{"(lambda (define) (define 1 2))", "(lambda (v1) (v1 '1 '2))"},
		{"(lambda (begin) (begin) 1)", "(lambda (v1) (begin (v1) '1))"},
		{"(lambda (x) (define define 5) (define x))", "(lambda (v1) (let v2 '#v (begin (set! v2 '5) (v2 v1))))"},
		{"(lambda (define-syntax x) (define-syntax x 1))", "(lambda (v1 v2) (v1 v2 '1))"},
	})
}

func TestBodiesWrong(t *testing.T) {
	for _, definition := range []string{
		"(define)", "(define x)", "(define x 1 2)", "(define 1 2)", "(define \"x\" 2)", "(define #v 1)", "(define () 1)", "(define (1) 2)", "(define ((f)) 1)", "(define ((f) x) 1)", "(define (\"f\") 1)", "(define (f))", "(define (f x))", "(define (f . x))", "(define (f . 1) 2)", "(define (f 1) 2)", "(define (f x x) 2)", "(define (f x . x) 2)",
		"(define x . 1)", "(define . x)", "(define x 1 . 2)", "(define (f) . 1)", "(define (f) 1 . 2)", "(define (f) (define x 1))", "(define (f) 1 (define x 1))",
		"(begin . 1)", "(begin (define x))", "(begin 1 (define x 1))", "(begin (begin 1) (define x 1))",
		"(define-syntax x)", "(define-syntax x 1)", "(define-syntax x (syntax-rules ()) 1)", "(define-syntax (x) (syntax-rules ()))", "(define-syntax 1 (syntax-rules ()))",
		"()", "(1 . 2)", "#v", "(if)", "let", "(let)",
	} {
		checkWrong(t, "(lambda () "+definition+" 1)", 0, api.ErrSyntax)
		checkWrong(t, "(lambda () (define y 1) (begin "+definition+") y)", 0, api.ErrSyntax)
		checkWrong(t, "(car (let-syntax () "+definition+" 1))", 0, api.ErrSyntax)
		if definition != "(begin 1 (define x 1))" && definition != "(begin (begin 1) (define x 1))" {
			checkWrong(t, "2 "+definition+" 1", 1, api.ErrSyntax)
			checkWrong(t, "2 (begin 3 "+definition+") 1", 1, api.ErrSyntax)
		}
	}
	// No expression.
	for _, body := range []string{"", "(define x 1)", "(begin)", "(begin (begin))", "(define (f) 1) (define x 2)", "(define-syntax m (syntax-rules ()))", "(begin (define x 1) (begin))", "(define-syntax m (syntax-rules () ((_) (define x 1)))) (m)", "(define x zzz)", "(define x (if)) (begin)"} {
		checkAllWrong(t, api.ErrSyntax, "(lambda () "+body+")", "(lambda (x) "+body+")", "(let-syntax () "+body+")", "(let () "+body+")", "(define (f) "+body+")")
	}
	// A definition behind an expression.
	for _, definition := range []string{"(define x 1)", "(define (f) 1)", "(define-syntax m (syntax-rules ()))", "(begin (define x 1))"} {
		checkAllWrong(t, api.ErrSyntax, "(lambda () 1 "+definition+" 2)", "(lambda (x) x "+definition+")", "(lambda () (begin 1 "+definition+") 2)", "(lambda () (begin 1) "+definition+" 2)", "(lambda () (define y 1) y "+definition+" 2)", "(lambda () (let () 1) "+definition+" 2)", "(let ((x 1)) x "+definition+" x)")
	}
	checkWrong(t, "(define-syntax m (syntax-rules () ((_) (define x 1)))) (lambda () 1 (m) 2)", 1, api.ErrSyntax)
	checkWrong(t, "(define-syntax m (syntax-rules () ((_) 1))) (lambda () (m) (define x 2) x)", 1, api.ErrSyntax)
	// What is defined in a body is not seen behind it.
	checkWrong(t, "(lambda () (define x 1) x) x", 1, api.ErrBound)
	checkWrong(t, "(lambda () (define-syntax m (syntax-rules () ((_) 1))) (m)) (m)", 1, api.ErrBound)
}

func TestDefinedTwice(t *testing.T) {
	checkAll(t, [][2]string{
		// In a body each definition has a variable of its own; in all of it the last one is meant.
		{"(lambda () (define x 1) (define x 2) x)", "(lambda () (let v1 '#v (let v2 '#v (begin (set! v1 '1) (begin (set! v2 '2) v2)))))"},
		{"(lambda () (define x (lambda () x)) (define y x) (define x y) x)", "(lambda () (let v1 '#v (let v2 '#v (let v3 '#v (begin (set! v1 (lambda () v3)) (begin (set! v2 v3) (begin (set! v3 v2) v3)))))))"},
		{"(lambda () (define (f) 1) (define (f) 2) (define (f) (f)) f)", "(lambda () (let v1 '#v (let v2 '#v (let v3 '#v (begin (set! v1 (lambda () '1)) (begin (set! v2 (lambda () '2)) (begin (set! v3 (lambda () (v3))) v3)))))))"},
		{"(lambda () (define x 1) (define-syntax x (syntax-rules () ((_) 2))) (x))", "(lambda () (let v1 '#v (begin (set! v1 '1) '2)))"},
		{"(lambda () (define-syntax x (syntax-rules () ((_) 2))) (define x 1) (x))", "(lambda () (let v1 '#v (begin (set! v1 '1) (v1))))"},
		{"(lambda () (define-syntax x (syntax-rules () ((_) 1))) (define-syntax x (syntax-rules () ((_) 2))) (x))", "(lambda () '2)"},
		{"(define (f) (define x 1) (define x 2) x)", "(let v1 '#v (begin (set! v1 (lambda () (let v2 '#v (let v3 '#v (begin (set! v2 '1) (begin (set! v3 '2) v3)))))) (%void)))"},
		{"(let-syntax () (define x 1) (define x 2) x)", "(let v1 '#v (let v2 '#v (begin (set! v1 '1) (begin (set! v2 '2) v2))))"},
		// In a program it is set again.
		{"(define x 1) (define x 2) x", "(let v1 '#v (begin (set! v1 '1) (begin (set! v1 '2) v1)))"},
		{"(define x 1) x (define (x) x) x", "(let v1 '#v (begin (set! v1 '1) (begin v1 (begin (set! v1 (lambda () v1)) v1))))"},
		{"(define x 1) (define y 2) (begin (define x y) (define y x))", "(let v1 '#v (let v2 '#v (begin (set! v1 '1) (begin (set! v2 '2) (begin (set! v1 v2) (begin (set! v2 v1) (%void)))))))"},
		{"(define x 1) (define-syntax x (syntax-rules () ((_) 2))) (x)", "(let v1 '#v (begin (set! v1 '1) '2))"},
		{"(define-syntax x (syntax-rules () ((_) 2))) (x) (define x 1) (x)", "(let v1 '#v (begin '2 (begin (set! v1 '1) (v1))))"},
		{"(define-syntax x (syntax-rules () ((_) 1))) (x) (define-syntax x (syntax-rules () ((_) 2))) (x)", "(begin '1 '2)"},
	})
}

func TestPrograms(t *testing.T) {
	checkAll(t, [][2]string{
		{"1", "'1"},
		{"1 2 3", "(begin '1 (begin '2 '3))"},
		{"(begin 1 2) 3", "(begin '1 (begin '2 '3))"},
		{"1 (begin 2 (begin 3)) 4", "(begin '1 (begin '2 (begin '3 '4)))"},
		{"(define x 1) x", "(let v1 '#v (begin (set! v1 '1) v1))"},
		// Definitions behind expressions: each is set where it stands.
		{"1 (define x 2) x (define y 3) y", "(let v1 '#v (let v2 '#v (begin '1 (begin (set! v1 '2) (begin v1 (begin (set! v2 '3) v2))))))"},
		{"(lambda () y) (define y 1) 2", "(let v1 '#v (begin (lambda () v1) (begin (set! v1 '1) '2)))"},
		{"x (define x 1) 2", "(let v1 '#v (begin v1 (begin (set! v1 '1) '2)))"},
		{"(set! x 1) (begin 2 (define x 3)) x", "(let v1 '#v (begin (set! v1 '1) (begin '2 (begin (set! v1 '3) v1))))"},
		{"1 (define-syntax m (syntax-rules () ((_) 2))) (m)", "(begin '1 '2)"},
		{"(define (f x) (g x)) (define (g x) (f x)) (f 1)", "(let v1 '#v (let v2 '#v (begin (set! v1 (lambda (v3) (v2 v3))) (begin (set! v2 (lambda (v4) (v1 v4))) (v1 '1)))))"},
		{"(define (f . x) x) (define (g x . y) x) 1", "(let v1 '#v (let v2 '#v (begin (set! v1 (lambda v3 v3)) (begin (set! v2 (lambda (v4 . v5) v4)) '1))))"},
		{"(define car cdr) (car 1)", "(let v1 '#v (begin (set! v1 (lambda (v2) (%cdr v2))) (v1 '1)))"},
		// Without an expression at its end.
		{"", "(%void)"},
		{"(begin)", "(%void)"},
		{"(begin (begin) (begin))", "(%void)"},
		{"(define-syntax m (syntax-rules ()))", "(%void)"},
		{"(define x 1)", "(let v1 '#v (begin (set! v1 '1) (%void)))"},
		{"1 (define x 1)", "(let v1 '#v (begin '1 (begin (set! v1 '1) (%void))))"},
		{"(begin 1 (define x 1))", "(let v1 '#v (begin '1 (begin (set! v1 '1) (%void))))"},
		{"(define-syntax m (syntax-rules () ((_ x) (define x 1)))) 2 (m x)", "(let v1 '#v (begin '2 (begin (set! v1 '1) (%void))))"},
		{"1 (define-syntax m (syntax-rules ()))", "(begin '1 (%void))"},
		// What is found before it is defined is an expression, and may still become what a macro makes.
		{"(m 1) (define-syntax m (syntax-rules () ((_ x) (car x))))", "(begin (%car '1) (%void))"},
		{"(define (f) (m 1)) (define-syntax m (syntax-rules () ((_ x) (car x))))", "(let v1 '#v (begin (set! v1 (lambda () (%car '1))) (%void)))"},
	})
	checkWrong(t, "(m x) (define-syntax m (syntax-rules () ((_ x) (define x 1))))", 0, api.ErrSyntax)
	checkWrong(t, "(begin 1 . 2)", 0, api.ErrSyntax)
	checkWrong(t, "1 (define x) 2", 1, api.ErrSyntax)
}

func TestProgramOfNil(t *testing.T) {
	for _, l := range [][]api.Datum{nil, {}} {
		e, at, err := Program(l)
		if shown(e) != "(%void)" || at != 0 || err != api.OK {
			t.Errorf("Program of nothing: %s, %d, %v", shown(e), at, err)
		}
	}
}
