package expand

import (
	"strings"
	"testing"

	"pavane/api"
	"pavane/datum"
	"pavane/write"
)

var formNames = strings.Fields("quote lambda if set! begin define define-syntax let-syntax letrec-syntax")

var macroNames = strings.Fields("let let* letrec letrec* and or when unless cond case do")

// constants are data that stand for themselves.
var constants = []string{"0", "1", "-7", "123456789012345678901234567890", "#t", "#f", `""`, `"a"`, `"\x0;"`}

func TestAtoms(t *testing.T) {
	for _, s := range constants {
		check(t, s, "'"+write.Write(one(t, s)))
		check(t, "(begin "+s+")", "'"+write.Write(one(t, s)))
	}
	checkAllWrong(t, api.ErrSyntax, "#v", "(begin #v)", "(#v)", "()", "(begin ())", "(())", "(1 . 2)", "((lambda (x) x) . 1)", "((lambda (x) x) 1 . 2)", "(car 1 . 2)", "(begin . 1)", "(begin 1 . 2)", "(if 1 2 . 3)", "(quote . a)", "(quote a . b)", "(zzz . 1)", "(if . if)")
	checkAllWrong(t, api.ErrBound, "zzz", "(zzz)", "(zzz 1)", "(1 zzz)", "((zzz) 1)", "...", "_", "else", "=>", "syntax-rules", "(syntax-rules () ((_) 1))", "quasiquote", "`a", ",a", "|a b|", `|car\x0;|`, `|\x0;car|`, `|\x0;|`, `|if\x0;1|`, `(|if\x0;1| 1 2)`, "(|and (syntax-rules| 1)", "|or (syntax-rules ()|", "(|let | () 1)", "(|(define-syntax| 1 2)")
	for _, name := range append(formNames, macroNames...) {
		checkAllWrong(t, api.ErrSyntax, name, "(begin "+name+")", "(1 "+name+")", "(car "+name+")", "(set! "+name+" 1)")
	}
}

func TestCalls(t *testing.T) {
	checkAll(t, [][2]string{
		{"(5)", "('5)"},
		{"(5 1)", "('5 '1)"},
		{`("a" #t 2)`, `('"a" '#t '2)`},
		{"((5))", "(('5))"},
		{"('a 'b)", "('a 'b)"},
		{"((lambda (x) x) 1)", "((lambda (v1) v1) '1)"},
		{"((if 1 2 3) 4 5)", "((if '1 '2 '3) '4 '5)"},
		{"((car 1) (cdr 2))", "((%car '1) (%cdr '2))"},
		{"(lambda (f x) (f x (f)))", "(lambda (v1 v2) (v1 v2 (v1)))"},
		{"((begin car) 1)", "((lambda (v1) (%car v1)) '1)"},
	})
	checkAllWrong(t, api.ErrBound, "(5 zzz (if))", "((lambda (x) y) (if))")
	checkAllWrong(t, api.ErrSyntax, "(5 (if) zzz)", "((if) zzz)", "(5 #v)")
}

func TestQuote(t *testing.T) {
	for _, s := range append(constants, "a", "#v", "()", "(a)", "(a b)", "(a . b)", "((a . 1) (b) . c)", "(quote a)", "if", "(if)", "(lambda x . y)", "...", "(1 #v . #v)", "|a b|", `"a b"`, "(let ((x 1)) x)", "((((((a))))))") {
		want := "'" + write.Write(one(t, s))
		check(t, "(quote "+s+")", want)
		check(t, "(begin '"+s+")", want)
		check(t, "((lambda (a b c if) '"+s+"))", "((lambda (v1 v2 v3 v4) "+want+"))")
	}
	checkAll(t, [][2]string{
		// All symbols in it are Stripped, wherever they are from.
		{`'|a\x0;1|`, "'a"},
		{`'|a\x0;|`, "'a"},
		{`'(|a\x0;1| (b . |c\x0;2\x0;3|) "d\x0;4" |e\x0;|)`, `'(a (b . c) "d\x00;4" e)`},
	})
	checkAllWrong(t, api.ErrSyntax, "(quote)", "(quote a b)", "(quote a b c)", "(quote . a)", "(quote a . b)")
}

func TestQuoteKeepsData(t *testing.T) {
	for _, s := range append(constants, "#v", "(1 (2 . 3) #v \"x\" #f)") {
		d := one(t, s)
		if e := made(t, "(quote "+s+")"); e.Kind != api.ExConst || !datum.Same(e.D, d) {
			t.Errorf("quote of %s: %s", s, shown(e))
		}
	}
}

func TestLambda(t *testing.T) {
	checkAll(t, [][2]string{
		{"(lambda () 1)", "(lambda () '1)"},
		{"(lambda (x) x)", "(lambda (v1) v1)"},
		{"(lambda (x y z) (z x y))", "(lambda (v1 v2 v3) (v3 v1 v2))"},
		{"(lambda x x)", "(lambda v1 v1)"},
		{"(lambda (x . y) (x y))", "(lambda (v1 . v2) (v1 v2))"},
		{"(lambda (x y . z) z)", "(lambda (v1 v2 . v3) v3)"},
		{"(lambda (x) 1 2 x)", "(lambda (v1) (begin '1 (begin '2 v1)))"},
		{"(lambda (x) (lambda (x) x))", "(lambda (v1) (lambda (v2) v2))"},
		{"(lambda (x) (lambda (y) x))", "(lambda (v1) (lambda (v2) v1))"},
		{"(lambda (x) (x (lambda (x . y) (x y)) x))", "(lambda (v1) (v1 (lambda (v2 . v3) (v2 v3)) v1))"},
		{"((lambda (x) x) (lambda (x) x))", "((lambda (v1) v1) (lambda (v2) v2))"},
		{"(lambda (|a b| _ ...) (... _ |a b|))", "(lambda (v1 v2 v3) (v3 v2 v1))"},
		{`(lambda (x |x\x0;| |x\x0;1|) (|x\x0;1| |x\x0;| x))`, "(lambda (v1 v2 v3) (v3 v2 v1))"},
	})
	checkAllWrong(t, api.ErrSyntax,
		"(lambda)", "(lambda x)", "(lambda (x))", "(lambda ())", "(lambda 1 2)", `(lambda "x" 2)`, "(lambda #t 2)", "(lambda #v 2)",
		"(lambda (1) 2)", "(lambda (x 1) 2)", "(lambda (x . 1) 2)", "(lambda (x (y)) 2)", "(lambda ((x) y) 2)", `(lambda (x . "y") 2)`, "(lambda (#v) 1)", "(lambda (x . #v) 1)",
		"(lambda (x x) 2)", "(lambda (x y x) 2)", "(lambda (x . x) 2)", "(lambda (x y . y) 2)", "(lambda (1 1) 2)",
		"(lambda (x) . x)", "(lambda (x) x . x)", "(lambda . x)", "(lambda (if if) 1)", "(lambda (x x) zzz)", "(lambda (zzz 1) zzz)",
	)
	checkAllWrong(t, api.ErrBound, "(lambda (x) y)", "((lambda (x) x) x)", "(lambda (x) (lambda (y) y) y)")
}

func TestIf(t *testing.T) {
	checkAll(t, [][2]string{
		{"(if 1 2 3)", "(if '1 '2 '3)"},
		{"(if 1 2)", "(if '1 '2 (%void))"},
		{"(if (if 1 2) (if 3 4 5))", "(if (if '1 '2 (%void)) (if '3 '4 '5) (%void))"},
		{"(lambda (void) (if 1 2))", "(lambda (v1) (if '1 '2 (%void)))"},
	})
	checkAllWrong(t, api.ErrSyntax, "(if)", "(if 1)", "(if 1 2 3 4)", "(if 1 2 . 3)", "(if zzz)", "(if zzz zzz zzz zzz)", "(if 1 (if) zzz)")
	checkAllWrong(t, api.ErrBound, "(if zzz 1)", "(if 1 zzz)", "(if 1 2 zzz)", "(if 1 zzz (if))")
}

func TestSet(t *testing.T) {
	checkAll(t, [][2]string{
		{"(lambda (x) (set! x 1))", "(lambda (v1) (set! v1 '1))"},
		{"(lambda (x y) (set! y x) (set! x (set! y 2)))", "(lambda (v1 v2) (begin (set! v2 v1) (set! v1 (set! v2 '2))))"},
		{"(lambda (x) (lambda (y) (set! x y)))", "(lambda (v1) (lambda (v2) (set! v1 v2)))"},
		{"(lambda x (set! x car))", "(lambda v1 (set! v1 (lambda (v2) (%car v2))))"},
		{"(lambda (car) (set! car 1) car)", "(lambda (v1) (begin (set! v1 '1) v1))"},
		{"(lambda (if) (set! if 1) (if 2))", "(lambda (v1) (begin (set! v1 '1) (v1 '2)))"},
		{"(define x 1) (set! x 2)", "(let v1 '#v (begin (set! v1 '1) (set! v1 '2)))"},
	})
	checkAllWrong(t, api.ErrSyntax,
		"(set!)", "(lambda (x) (set! x))", "(lambda (x) (set! x 1 2))", "(lambda (x) (set! x . 1))", "(lambda (x) (set! x 1 . 2))", "(lambda (x) (set! (x) 1))",
		"(set! 1 2)", `(set! "x" 2)`, "(set! #v 2)", "(set! () 1)", "(set! car 1)", "(set! set! 1)", "(set! let 1)", "(set! zzz)", "(set! zzz 1 2)", "(set! car zzz)", "(lambda (x) (set! x (if)))",
	)
	checkAllWrong(t, api.ErrBound, "(set! zzz 1)", "(set! zzz (if))", "(lambda (x) (set! x zzz))")
	checkWrong(t, "(lambda (x) x) (set! x 1)", 1, api.ErrBound)
}

func TestBegin(t *testing.T) {
	checkAll(t, [][2]string{
		{"(if 1 (begin 2))", "(if '1 '2 (%void))"},
		{"(car (begin 1 2))", "(%car (begin '1 '2))"},
		{"(car (begin 1 2 3))", "(%car (begin '1 (begin '2 '3)))"},
		{"(car (begin 1 2 3 4))", "(%car (begin '1 (begin '2 (begin '3 '4))))"},
		{"(car (begin (begin 1 2) (begin 3 4)))", "(%car (begin (begin '1 '2) (begin '3 '4)))"},
		{"(car (begin (begin (begin 1))))", "(%car '1)"},
		{"(lambda () (begin 1 2))", "(lambda () (begin '1 '2))"},
		// Behind the first expression of a body that is no program's, it is one expression.
		{"(lambda () 0 (begin 1 2) 3)", "(lambda () (begin '0 (begin (begin '1 '2) '3)))"},
		{"(lambda () 0 (begin 1))", "(lambda () (begin '0 '1))"},
	})
	checkAllWrong(t, api.ErrSyntax, "(car (begin))", "(if (begin) 1)", "(car (begin . 1))", "(car (begin 1 . 2))", "(lambda () 1 (begin))", "(car (begin 1 (begin)))", "(car (begin (if) zzz))")
	checkAllWrong(t, api.ErrBound, "(car (begin 1 zzz (if)))")
}

func TestDefinitionsWhereNoneIs(t *testing.T) {
	for _, d := range []string{"(define x 1)", "(define (x) 1)", "(define-syntax x (syntax-rules ()))", "(define)", "(define-syntax)", "(begin (define x 1))", "(begin (define x 1) 2)"} {
		checkAllWrong(t, api.ErrSyntax, "(if "+d+" 1)", "(if 1 "+d+")", "(car "+d+")", "("+d+")", "(1 "+d+")", "(lambda (x) (set! x "+d+"))", "(car (begin "+d+" 1))", "(lambda () 1 "+d+" 2)", "(lambda () 1 "+d+")", "(define y "+d+")", "(let-syntax () 1 "+d+")")
	}
}

const twoMacros = "((a (syntax-rules () ((_) 1))) (b (syntax-rules () ((_ x) (car x)))))"

func TestLetSyntax(t *testing.T) {
	for _, form := range []string{"let-syntax", "letrec-syntax"} {
		rows := [][2]string{
			{"(FORM () 1)", "'1"},
			{"(FORM () 1 2)", "(begin '1 '2)"},
			{"(FORM " + twoMacros + " (b (a)))", "(%car '1)"},
			{"(FORM " + twoMacros + " (a) (b 2) 3)", "(begin '1 (begin (%car '2) '3))"},
			{"(lambda (a) (FORM " + twoMacros + " (a)))", "(lambda (v1) '1)"},
			{"(FORM " + twoMacros + " (lambda (a) (a)))", "(lambda (v1) (v1))"},
			{"(FORM " + twoMacros + " (define x (a)) (b x))", "(let v1 '#v (begin (set! v1 '1) (%car v1)))"},
			{"(FORM " + twoMacros + " (define a 2) a)", "(let v1 '#v (begin (set! v1 '2) v1))"},
			{"(FORM " + twoMacros + " (define-syntax a (syntax-rules () ((_) 3))) (a))", "'3"},
			{"(lambda (x) (FORM ((set (syntax-rules () ((_ y) (set! x y))))) (lambda (x) (set x))))", "(lambda (v1) (lambda (v2) (set! v1 v2)))"},
			{"(FORM ((if (syntax-rules () ((_ a) a)))) (if 1))", "'1"},
			{"(car (FORM () 1))", "(%car '1)"},
			{"(FORM ((a (syntax-rules ()))) 1)", "'1"},
			{"(lambda () (define-syntax a (syntax-rules () ((_) 0))) (FORM " + twoMacros + " (a)))", "(lambda () '1)"},
			// Of two of one name the first counts.
			{"(FORM ((a (syntax-rules () ((_) 1))) (a (syntax-rules () ((_) 2)))) (a))", "'1"},
		}
		wrong := []string{
			"(FORM)", "(FORM ())", "(FORM " + twoMacros + ")", "(FORM a 1)", "(FORM 1 1)", "(FORM ((a (syntax-rules ())) . b) 1)", "(FORM (a) 1)", "(FORM ((a)) 1)", "(FORM ((1 (syntax-rules ()))) 1)",
			"(FORM ((a (syntax-rules ()) 1)) 1)", "(FORM ((a (syntax-rules ()) . 1)) 1)", "(FORM ((a . (1))) 1)", "(FORM ((a 1)) 1)", "(FORM ((a b)) 1)", "(FORM ((a (syntax-rules))) 1)", "(FORM (((a) (syntax-rules ()))) 1)",
			"(FORM " + twoMacros + " a)", "(FORM " + twoMacros + " (a 1))", "(FORM " + twoMacros + " (define x 1))", "(FORM () . 1)", "(FORM () 1 . 2)", "(FORM #v 1)", "(FORM (#v) 1)", "(FORM (()) 1)", "(FORM ((a #v)) 1)",
		}
		for _, row := range rows {
			check(t, strings.ReplaceAll(row[0], "FORM", form), row[1])
		}
		for _, s := range wrong {
			checkWrong(t, strings.ReplaceAll(s, "FORM", form), 0, api.ErrSyntax)
		}
		// What stands in its body is not seen behind it.
		checkWrong(t, "("+form+" "+twoMacros+" (define x 1) x) x", 1, api.ErrBound)
		checkWrong(t, "("+form+" "+twoMacros+" (a)) (a)", 1, api.ErrBound)
		checkWrong(t, "("+form+" () zzz)", 0, api.ErrBound)
	}
}

func TestLetSyntaxKnowsItself(t *testing.T) {
	const (
		inner = "((f (syntax-rules () ((_) (g)) ((_ x) (f)))) (g (syntax-rules () ((_) 2))))"
		outer = "((f (syntax-rules () ((_) 0))) (g (syntax-rules () ((_) 1))))"
	)
	checkAll(t, [][2]string{
		{"(letrec-syntax " + inner + " (f))", "'2"},
		{"(letrec-syntax " + inner + " (f 5))", "'2"},
		{"(letrec-syntax " + outer + " (letrec-syntax " + inner + " (f)))", "'2"},
		{"(letrec-syntax " + outer + " (letrec-syntax " + inner + " (f 5)))", "'2"},
		{"(letrec-syntax " + outer + " (let-syntax " + inner + " (f)))", "'1"},
		{"(letrec-syntax " + outer + " (let-syntax " + inner + " (f 5)))", "'0"},
		{"(letrec-syntax " + outer + " (let-syntax " + inner + " (g)))", "'2"},
		{"(lambda (g) (let-syntax " + inner + " (f)))", "(lambda (v1) (v1))"},
		{"(lambda (g) (letrec-syntax " + inner + " (f)))", "(lambda (v1) '2)"},
		{"(lambda (f) (let-syntax " + inner + " (f 5)))", "(lambda (v1) (v1))"},
	})
	// A body's definitions are in a scope of their own, within the one that they were made in.
	for _, form := range []string{"let-syntax", "letrec-syntax"} {
		checkWrong(t, "("+form+" ((m (syntax-rules () ((_) x)))) (define x 1) (m))", 0, api.ErrBound)
	}
	checkAllWrong(t, api.ErrBound, "(let-syntax "+inner+" (f))", "(let-syntax "+inner+" (f 5))")
}
