package expand

import (
	"strings"
	"testing"

	"pavane/api"
)

func TestScopes(t *testing.T) {
	checkAll(t, [][2]string{
		// A variable, a macro, a form and a primitive of one name, each in a scope within another.
		{"(lambda (x) x (lambda (x) x (lambda (x) x)) x)", "(lambda (v1) (begin v1 (begin (lambda (v2) (begin v2 (lambda (v3) v3))) v1)))"},
		{"(car (lambda (car) (car car (let-syntax ((car (syntax-rules () ((_ a) 'a)))) (car b) (lambda (car) car)))))", "(%car (lambda (v1) (v1 v1 (begin 'b (lambda (v2) v2)))))"},
		{"(if 1 (lambda (if) (if 2 (let-syntax ((if (syntax-rules () ((_ a) '(a a))))) (if 3) (lambda (if) (if if))))))", "(if '1 (lambda (v1) (v1 '2 (begin '(3 3) (lambda (v2) (v2 v2))))) (%void))"},
		{"(let-syntax ((m (syntax-rules () ((_) 1)))) (m) (lambda (m) (m) (let-syntax ((m (syntax-rules () ((_) 2)))) (m))))", "(begin '1 (lambda (v1) (begin (v1) '2)))"},
		{"(define x 1) (lambda () (define x 2) x (lambda (x) x)) x", "(let v1 '#v (begin (set! v1 '1) (begin (lambda () (let v2 '#v (begin (set! v2 '2) (begin v2 (lambda (v3) v3))))) v1)))"},
		{"(lambda (x) (define x 1) x)", "(lambda (v1) (let v2 '#v (begin (set! v2 '1) v2)))"},
		{"(lambda (x) (define y x) y)", "(lambda (v1) (let v2 '#v (begin (set! v2 v1) v2)))"},
		{"(lambda (x) (define-syntax x (syntax-rules () ((_) 1))) (x))", "(lambda (v1) '1)"},
		{"(define car 1) car (car 2)", "(let v1 '#v (begin (set! v1 '1) (begin v1 (v1 '2))))"},
		{"(define-syntax car (syntax-rules () ((_ x) (cdr x)))) (car 2)", "(%cdr '2)"},
		{"(define let 1) (let 2)", "(let v1 '#v (begin (set! v1 '1) (v1 '2)))"},
		{"(define-syntax if (syntax-rules () ((_ x) x))) (if 1)", "'1"},
	})
}

func TestNamesAsVariables(t *testing.T) {
	for _, name := range append(append(formNames, macroNames...), numbered...) {
		for _, row := range [][2]string{
			{"(lambda (NAME) NAME)", "(lambda (v1) v1)"},
			{"(lambda (NAME) (NAME))", "(lambda (v1) (v1))"},
			{"(lambda (NAME) (NAME NAME 1))", "(lambda (v1) (v1 v1 '1))"},
			{"(lambda NAME NAME)", "(lambda v1 v1)"},
			{"(lambda (NAME . x) NAME)", "(lambda (v1 . v2) v1)"},
			{"(lambda () (define NAME 1) NAME)", "(lambda () (let v1 '#v (begin (set! v1 '1) v1)))"},
			{"(define NAME 1) (NAME 2)", "(let v1 '#v (begin (set! v1 '1) (v1 '2)))"},
			{"(define (NAME) (NAME))", "(let v1 '#v (begin (set! v1 (lambda () (v1))) (%void)))"},
			{"(let-syntax ((NAME (syntax-rules () ((_) 1)))) (NAME))", "'1"},
			// What a macro makes of that name there is what it was where the macro was made.
			{"(let-syntax ((m (syntax-rules () ((_) 'NAME)))) (lambda (NAME) (m) NAME))", "(lambda (v1) (begin 'NAME v1))"},
		} {
			check(t, strings.ReplaceAll(row[0], "NAME", name), strings.ReplaceAll(row[1], "NAME", name))
		}
	}
	// Each macro that makes the name is used where the name is a variable, and one that gets the name makes a call of it.
	for _, row := range [][3]string{
		{"quote", "(quote x)", "'x"},
		{"lambda", "(lambda (x) x)", "(lambda (v2) v2)"},
		{"if", "(if 1 2)", "(if '1 '2 (%void))"},
		{"begin", "(begin 1 2)", "(begin '1 '2)"},
		{"let-syntax", "(let-syntax () 1)", "'1"},
		{"letrec-syntax", "(letrec-syntax () 1)", "'1"},
		{"set!", "(lambda (x) (set! x 1))", "(lambda (v2) (set! v2 '1))"},
		{"define", "(lambda () (define x 1) x)", "(lambda () (let v2 '#v (begin (set! v2 '1) v2)))"},
		{"define-syntax", "(lambda () (define-syntax x (syntax-rules () ((_) 1))) (x))", "(lambda () '1)"},
		{"car", "(car 1)", "(%car '1)"},
		{"car", "car", "(lambda (v2) (%car v2))"},
		{"+", "(+ 1 2 3)", "(%+ (%+ '1 '2) '3)"},
		{"let", "(let ((x 1)) x)", "((lambda (v2) v2) '1)"},
		{"and", "(and 1 2)", "(if '1 '2 '#f)"},
		{"unless", "(unless 1 2)", "(if '1 (%void) '2)"},
	} {
		name, made, want := row[0], row[1], row[2]
		check(t, "(define-syntax m (syntax-rules () ((_) "+made+"))) (lambda ("+name+") (car (m)))", "(lambda (v1) "+carOf(name, want)+")")
		check(t, "(define-syntax m (syntax-rules () ((_) "+made+"))) (lambda ("+name+") 0 (m) "+name+")", "(lambda (v1) (begin '0 (begin "+want+" v1)))")
		check(t, "(define-syntax m (syntax-rules () ((_ f) (f 1 2)))) (lambda ("+name+") (m "+name+"))", "(lambda (v1) (v1 '1 '2))")
	}
}

// carOf is a call of car where name is the variable 1.
func carOf(name, arg string) string {
	if name == "car" {
		return "(v1 " + arg + ")"
	}
	return "(%car " + arg + ")"
}

func TestBaseStaysAsItIs(t *testing.T) {
	// A program has a scope of its own: what it defines is not what the macros of Base speak of.
	for _, name := range strings.Fields("if lambda let or begin void quote define letrec eq? car x loop") {
		for _, d := range []string{"(define " + name + " 0)", "(define-syntax " + name + " (syntax-rules ()))"} {
			begin, end, first := "(let v1 '#v (begin (set! v1 '0) ", "))", 2
			if strings.HasPrefix(d, "(define-syntax") {
				begin, end, first = "", "", 1
			}
			x := shownVariable(first)
			if name != "or" {
				check(t, d+" (or 1 2)", begin+"((lambda ("+x+") (if "+x+" "+x+" '2)) '1)"+end)
			}
			check(t, d+" (when 1 2)", begin+"(if '1 '2 (%void))"+end)
			check(t, d+" (unless 1 2 3)", begin+"(if '1 (%void) (begin '2 '3))"+end)
			check(t, d+" (case 1 ((2) 3) (else 4))", begin+"(if (%eq? '1 '2) '3 '4)"+end)
			check(t, d+" (let* ((y 5)) y)", begin+"((lambda ("+x+") ((lambda () "+x+"))) '5)"+end)
		}
	}
}

func TestAliases(t *testing.T) {
	checkAll(t, [][2]string{
		// An alias that is bound where the macro was made, in each way.
		{"(lambda (x) (let-syntax ((m (syntax-rules () ((_) x)))) (lambda (x) (x (m)))))", "(lambda (v1) (lambda (v2) (v2 v1)))"},
		{"(define-syntax m (syntax-rules () ((_) x))) (define x 1) (lambda (x) (m))", "(let v1 '#v (begin (set! v1 '1) (lambda (v2) v1)))"},
		{"(define-syntax m (syntax-rules () ((_) (x)))) (m) (define x 1)", "(let v1 '#v (begin (v1) (begin (set! v1 '1) (%void))))"},
		{"(lambda () (define-syntax m (syntax-rules () ((_) x))) (define x 1) (lambda (x) (m)))", "(lambda () (let v1 '#v (begin (set! v1 '1) (lambda (v2) v1))))"},
		{"(lambda (x) (let-syntax ((m (syntax-rules () ((_ y) (set! x y))))) (lambda (x) (m x))))", "(lambda (v1) (lambda (v2) (set! v1 v2)))"},
		{"(define-syntax a (syntax-rules () ((_) 1))) (define-syntax m (syntax-rules () ((_) (a)))) (lambda (a) (m))", "(lambda (v1) '1)"},
		{"(define-syntax m (syntax-rules () ((_) (car 1)))) (lambda (car) (car (m)))", "(lambda (v1) (v1 (%car '1)))"},
		{"(define-syntax m (syntax-rules () ((_) car))) (lambda (car) (m))", "(lambda (v1) (lambda (v2) (%car v2)))"},
		// One that is bound in what the macro made: only that is it.
		{"(define-syntax m (syntax-rules () ((_ e) (lambda (x) (e x))))) (lambda (x) (m x))", "(lambda (v1) (lambda (v2) (v1 v2)))"},
		{"(define-syntax m (syntax-rules () ((_ x e) (lambda (x) e)))) (m y y)", "(lambda (v1) v1)"},
		{"(define-syntax m (syntax-rules () ((_ y e) (lambda (x y) (x e))))) (m x x)", "(lambda (v1 v2) (v1 v2))"},
		{"(define-syntax m (syntax-rules () ((_ e) (lambda () (define x 1) (define y e) (x y))))) (lambda (x) (m x))", "(lambda (v1) (lambda () (let v2 '#v (let v3 '#v (begin (set! v2 '1) (begin (set! v3 v1) (v2 v3)))))))"},
		{"(define-syntax m (syntax-rules () ((_ e) (let-syntax ((x (syntax-rules () ((_) 1)))) (e (x)))))) (lambda (x) (m x))", "(lambda (v1) (v1 '1))"},
		{"(define-syntax m (syntax-rules () ((_ e) (lambda (x) (lambda (y) (e x y)))))) (lambda (x y) (m (x y)))", "(lambda (v1 v2) (lambda (v3) (lambda (v4) ((v1 v2) v3 v4))))"},
		// Of each use another one, of each symbol in one use the same.
		{"(define-syntax m (syntax-rules () ((_ e) (lambda (x) (x e x))))) (m (m 1))", "(lambda (v1) (v1 (lambda (v2) (v2 '1 v2)) v1))"},
		{"(define-syntax m (syntax-rules () ((_ e f) (lambda (x) (m2 x e f))))) (define-syntax m2 (syntax-rules () ((_ x e f) (lambda (y) (x y e f))))) (lambda (x y) (m x y))", "(lambda (v1 v2) (lambda (v3) (lambda (v4) (v3 v4 v1 v2))))"},
		{"(define-syntax m (syntax-rules () ((_ v ...) (n () v ...)))) (define-syntax n (syntax-rules () ((_ (a ...)) (lambda (a ...) (a ...))) ((_ (a ...) v w ...) (n (a ... x) w ...)))) (m 1 2 3)", "(lambda (v1 v2 v3) (v1 v2 v3))"},
		// In quote they are what they were made of.
		{"(define-syntax m (syntax-rules () ((_ b) '(a b (a . c) \"a\" 1)))) (m d)", "'(a d (a . c) \"a\" 1)"},
		{"(define-syntax m (syntax-rules () ((_) (n x)))) (define-syntax n (syntax-rules () ((_ y) '(x y)))) (m)", "'(x x)"},
		{"(define-syntax m (syntax-rules () ((_) (quote quote)))) (m)", "'quote"},
		{`(define-syntax m (syntax-rules () ((_) '|x\x0;7|))) (m)`, "'x"},
		// One that macros made of an alias.
		{"(define-syntax m (syntax-rules () ((_ n) (define-syntax n (syntax-rules () ((_ e) (lambda (x) (x e)))))))) (m n) (lambda (x) (n x))", "(lambda (v1) (lambda (v2) (v2 v1)))"},
		{"(define-syntax m (syntax-rules () ((_ n) (define-syntax n (syntax-rules () ((_) '(x y))))))) (m n) (n)", "'(x y)"},
		{"(define-syntax m (syntax-rules () ((_ n) (define-syntax n (syntax-rules () ((_) (y))))))) (define y 1) (m n) (lambda (y) (n))", "(let v1 '#v (begin (set! v1 '1) (lambda (v2) (v1))))"},
		{"(define-syntax m (syntax-rules () ((_ n e) (lambda (x) (define-syntax n (syntax-rules () ((_) x))) e)))) (lambda (x) (m n (x (n))))", "(lambda (v1) (lambda (v2) (v1 v2)))"},
		// A definition that a macro makes of a symbol of its own is no other's.
		{"(define-syntax m (syntax-rules () ((_) (define x 1)))) (define x 2) (m) x", "(let v1 '#v (let v2 '#v (begin (set! v1 '2) (begin (set! v2 '1) v1))))"},
		{"(define-syntax m (syntax-rules () ((_) (begin (define x 1) x)))) (m) (m)", "(let v1 '#v (let v2 '#v (begin (set! v1 '1) (begin v1 (begin (set! v2 '1) v2)))))"},
		{"(define-syntax m (syntax-rules () ((_ x) (define x 1)))) (m x) (m x) x", "(let v1 '#v (begin (set! v1 '1) (begin (set! v1 '1) v1)))"},
	})
	// Bound nowhere, or only where the macro is used, or only behind what the macro was made in.
	checkWrong(t, "(define-syntax m (syntax-rules () ((_) x))) (m)", 1, api.ErrBound)
	checkWrong(t, "(define-syntax m (syntax-rules () ((_) x))) (lambda (x) (m))", 1, api.ErrBound)
	checkWrong(t, "(define-syntax m (syntax-rules () ((_) (set! x 1)))) (lambda (x) (m))", 1, api.ErrBound)
	checkWrong(t, "(define-syntax m (syntax-rules () ((_) (define x 1)))) (m) x", 2, api.ErrBound)
	checkWrong(t, "(define-syntax m (syntax-rules () ((_) (n)))) (lambda () (define-syntax n (syntax-rules () ((_) 1))) (m))", 1, api.ErrBound)
	checkWrong(t, "(define-syntax m (syntax-rules () ((_ e) (lambda (x) e)))) (m x)", 1, api.ErrBound)
	checkWrong(t, "(define-syntax m (syntax-rules () ((_) let))) (m)", 1, api.ErrSyntax)
	checkWrong(t, "(define-syntax m (syntax-rules () ((_) if))) (m)", 1, api.ErrSyntax)
	checkWrong(t, "(define-syntax m (syntax-rules () ((_) (lambda (x x) 1)))) (m)", 1, api.ErrSyntax)
}

func TestAliasesAreNumbered(t *testing.T) {
	// The first alias that is made is a symbol, a byte 0 and 1: who writes that symbol where the macro is used writes the alias.
	const m = "(define-syntax m (syntax-rules () ((_ a b) (lambda (x y x1) (a b))))) "
	check(t, m+`(m |x\x0;2| |y\x0;3|)`, "(lambda (v1 v2 v3) (v1 v2))")
	check(t, m+`(m |x1\x0;4| |x\x0;2|)`, "(lambda (v1 v2 v3) (v3 v1))")
	check(t, m+`(quote (m)) (m |y\x0;3| |y\x0;3|)`, "(begin '(m) (lambda (v1 v2 v3) (v2 v2)))")
	check(t, m+`(m car cdr) (m |x\x0;6| |y\x0;7|)`, "(begin (lambda (v1 v2 v3) (%car (lambda (v4) (%cdr v4)))) (lambda (v5 v6 v7) (v5 v6)))")
	for _, name := range []string{`|x\x0;1|`, `|x\x0;3|`, `|x\x0;02|`, `|x\x0;|`, `|x\x0;2 |`, `|y\x0;2|`, `|x2|`, `|a\x0;5|`, "x", "y"} {
		checkWrong(t, m+"(m "+name+" 1)", 1, api.ErrBound)
	}
	// A use's own aliases are numbered behind those of the uses ahead, also where the template's symbols are pattern's variables, or dots.
	const n = "(define-syntax n (syntax-rules () ((_ a b ...) (lambda (b ... c) (b ... a c . (d))))))"
	checkWrong(t, n+` (n |c\x0;2| e f)`, 1, api.ErrBound)
	check(t, "(define d 0) "+n+` (n |c\x0;2| e f)`, "(let v1 '#v (begin (set! v1 '0) (lambda (v2 v3 v4) (v2 v3 v4 v4 v1))))")
}
