package expand

import (
	"strings"
	"testing"

	"pavane/api"
)

// defined is a program that defines the macro m by rules, and then is this.
func defined(rules, s string) string {
	return "(define-syntax m (syntax-rules () " + rules + ")) " + s
}

func TestRules(t *testing.T) {
	const three = "((_ 1) 'first) ((_ a) 'second) ((_ a ...) 'last) ((_ . a) 'never)"
	checkAll(t, [][2]string{
		// The first rule counts that matches.
		{defined(three, "(m 1)"), "'first"},
		{defined(three, "(m 2)"), "'second"},
		{defined(three, "(m 2 3)"), "'last"},
		{defined(three, "(m)"), "'last"},
		{defined("((_ a) 'a) ((_ a) 'b)", "(m 1)"), "'1"},
		// A pattern's first item is no variable, whatever it is.
		{defined("((m a) 'm)", "(m 1)"), "'m"},
		{defined("((if a) (if a 2))", "(m 1)"), "(if '1 '2 (%void))"},
		{defined("((a a) 'a)", "(m 1)"), "'1"},
		{defined("((... a) 'a)", "(m 1)"), "'1"},
		{"(define-syntax m (syntax-rules (m) ((m a) 'a))) (define-syntax n (syntax-rules () ((_ a) (m a)))) (n 1)", "'1"},
		// A pattern with a Tail.
		{defined("((_ . a) 'a)", "(m 1 2)"), "'(1 2)"},
		{defined("((_ . a) 'a)", "(m)"), "'()"},
		{defined("((_ a . b) '(b a))", "(m 1 2 3)"), "'((2 3) 1)"},
		{defined("((_ a (b . c) ... . d) '(a b ... c ... d))", "(m 1 (2 . 3) (4 5))"), "'(1 2 4 3 (5) ())"},
		{defined("((_ (a . b)) '(b . a))", "(m (1 . 2))"), "'(2 . 1)"},
		// Templates.
		{defined("((_ a ...) '(a ... . b))", "(m 1 2)"), "'(1 2 . b)"},
		{defined("((_ (a ...) ...) '((a ...) ... (a ... ...)))", "(m (1 2) () (3))"), "'((1 2) () (3) (1 2 3))"},
		{defined("((_ a) '(... (a ...)))", "(m 1)"), "'(1 ...)"},
		{defined("((_ a) '(_ a))", "(m 1)"), "'(_ 1)"},
		{defined("((_) 5)", "(m)"), "'5"},
		{defined("((_) \"a\")", "(m)"), "'\"a\""},
		{defined("((_ a) a)", "(m car)"), "(lambda (v1) (%car v1))"},
		{defined("((_ _ a _) a)", "(m zzz 1 (if))"), "'1"},
		// What a macro makes may be a use of it, or of another, again.
		{defined("((_) 0) ((_ a b ...) (+ 1 (m b ...)))", "(m 1 1 1)"), "(%+ '1 (%+ '1 (%+ '1 '0)))"},
		{defined("((_ a) (n a a))", "(define-syntax n (syntax-rules () ((_ a b) (m2 a)))) (define-syntax m2 (syntax-rules () ((_ a) 'a))) (m 5)"), "'5"},
		// Data of all kinds match themselves.
		{defined("((_ \"a\") 1) ((_ #t) 2) ((_ #f) 3) ((_ 12) 4) ((_ ()) 5) ((_ (a)) 6)", "(m \"a\") (m #t) (m #f) (m 12) (m ()) (m (7))"), "(begin '1 (begin '2 (begin '3 (begin '4 (begin '5 '6)))))"},
		// No rules at all.
		{"(define-syntax m (syntax-rules ())) 1", "'1"},
	})
	for _, s := range []string{"(m)", "(m 1 2)", "(m . 1)", "(m 1 . 2)"} {
		checkWrong(t, defined("((_ 1) 2)", s), 1, api.ErrSyntax)
		checkWrong(t, defined("", s), 1, api.ErrSyntax)
	}
	checkWrong(t, defined("((_ . a) 'a)", "(m . 1)"), 1, api.ErrSyntax)
	checkWrong(t, defined("((_ a . b) 'a)", "(m)"), 1, api.ErrSyntax)
	checkWrong(t, defined("((_ a) a)", "m"), 1, api.ErrSyntax)
	checkWrong(t, defined("((_ a) a)", "(car m)"), 1, api.ErrSyntax)
	checkWrong(t, defined("((_) m)", "(m)"), 1, api.ErrSyntax)
	checkWrong(t, defined("((_) ())", "(m)"), 1, api.ErrSyntax)
	checkWrong(t, defined("((_) (car . 1))", "(m)"), 1, api.ErrSyntax)
	checkWrong(t, defined("((_) (m 1 . 2)) ((_ a) a)", "(m)"), 1, api.ErrSyntax)
	// What a template can't be filled with is told where it is used.
	for _, template := range []string{"...", "(... a b)", "a", "(a b ...)", "(b ...)", "(1 ...)", "(a . ...)", "(... . a)", "(a ... ...)"} {
		check(t, defined("((_ a ...) '"+template+")", "1"), "'1")
		checkWrong(t, defined("((_ a ...) '"+template+")", "1 (m 1)"), 2, api.ErrSyntax)
	}
}

func TestTemplatesTooLong(t *testing.T) {
	name := strings.Repeat("a", 62)
	check(t, defined("((_) '"+name+")", "(m)"), "'"+name[:62])
	// An alias that is no symbol any more, and more data than a datum has: Fill's error.
	checkWrong(t, defined("((_) '"+name+"b)", "(m)"), 1, api.ErrLong)
	checkWrong(t, defined("((_) '"+name+"bc)", "1 (m)"), 2, api.ErrLong)
	check(t, "'"+name+"bc", "'"+name+"bc")
	check(t, defined("((_ a) 'a)", "(m "+name+"bc)"), "'"+name+"bc")
	checkWrong(t, defined("((_ a ...) '((a a a) ...))", "(m "+repeated("1", 1300)+")"), 1, api.ErrLong)
	made(t, defined("((_ a ...) '((a a a) ...))", "(m "+repeated("1", 1200)+")"))
}

func TestRulesWrong(t *testing.T) {
	for _, rules := range []string{
		"", "1", "m", "()", "if", "#v", "(m)", "(syntax-rules)", "(syntax-rules . x)", "(syntax-rules () . x)", "(syntax-rules x)", "(syntax-rules 1)", "(syntax-rules #v)", "(syntax-rules (a . b))", "(syntax-rules (1))", "(syntax-rules (a (b)))", "(syntax-rules (\"a\"))", "(syntax-rules (a #v))",
		"(syntax-rule ())", "(\"syntax-rules\" ())", "((syntax-rules) ())", "(lambda ())", `(|\x0;syntax-rules| ())`, "(SYNTAX-RULES ())",
		"(syntax-rules () 1)", "(syntax-rules () a)", "(syntax-rules () ())", "(syntax-rules () ((_)))", "(syntax-rules () ((_) 1 2))", "(syntax-rules () ((_) . 1))", "(syntax-rules () ((_) 1 . 2))", "(syntax-rules () ((_) 1) . 2)", "(syntax-rules () ((_) 1) 2)", "(syntax-rules () #v)",
		"(syntax-rules () (_ 1))", "(syntax-rules () (1 1))", "(syntax-rules () (() 1))", "(syntax-rules () ((1) 1))", "(syntax-rules () (((_)) 1))", "(syntax-rules () ((\"_\" a) 1))", "(syntax-rules () ((#v) 1))", "(syntax-rules () (\"_\" 1))",
		"(syntax-rules () ((_ a a) 1))", "(syntax-rules () ((_ a . a) 1))", "(syntax-rules () ((_ a (b (a))) 1))", "(syntax-rules () ((_ ...) 1))", "(syntax-rules () ((_ . ...) 1))", "(syntax-rules () ((_ a ... b ...) 1))", "(syntax-rules () ((_ a ... ...) 1))", "(syntax-rules () ((_ (... a)) 1))", "(syntax-rules () ((_ a . ...) 1))",
		"(syntax-rules () ((_) 1) ((_ a a) 1))", "(syntax-rules (b) ((_ a b b a) 1))",
		"(syntax-rules ()) 1", "(syntax-rules ()) . 1",
	} {
		checkWrong(t, "(define-syntax m "+rules+")", 0, api.ErrSyntax)
		checkWrong(t, "1 (define-syntax m "+rules+") 2", 1, api.ErrSyntax)
		checkWrong(t, "(let-syntax ((m "+rules+")) 1)", 0, api.ErrSyntax)
		checkWrong(t, "(letrec-syntax ((m "+rules+")) 1)", 0, api.ErrSyntax)
		checkWrong(t, "(lambda () (define-syntax m "+rules+") 1)", 0, api.ErrSyntax)
	}
	for _, name := range []string{"1", "()", "(m)", "(m a)", "\"m\"", "#t", "#v"} {
		checkWrong(t, "(define-syntax "+name+" (syntax-rules ()))", 0, api.ErrSyntax)
	}
	for _, s := range []string{"(define-syntax)", "(define-syntax m)", "(define-syntax . m)", "(define-syntax m . m)"} {
		checkWrong(t, s, 0, api.ErrSyntax)
	}
}

func TestRulesRight(t *testing.T) {
	for _, rules := range []string{
		"(syntax-rules ())", "(syntax-rules (a b c))", "(syntax-rules (a a))", "(syntax-rules (_ ...))", `(|syntax-rules\x0;| ())`, `(|syntax-rules\x0;5| ())`, `(|syntax-rules\x0;5\x0;x| () ((_) 1))`,
		"(syntax-rules () ((_) 1))", "(syntax-rules () ((_ a ...) 1) ((_ . a) ...))", "(syntax-rules () ((_ _ _) 1))", "(syntax-rules (a) ((_ a a) 1))", "(syntax-rules (...) ((_ ... ...) 1))", "(syntax-rules () ((... a) 1))", "(syntax-rules () ((a a) 1))", "(syntax-rules () ((_ #v) #v))",
		"[syntax-rules [] [[_] 1]]",
	} {
		check(t, "(define-syntax m "+rules+") 1", "'1")
		check(t, "(let-syntax ((m "+rules+")) 1)", "'1")
		check(t, "(letrec-syntax ((m "+rules+")) 1)", "'1")
		check(t, "(lambda (syntax-rules) (define-syntax m "+rules+") 1)", "(lambda (v1) '1)")
	}
	// Literals that are dots, or _: these alone.
	check(t, "(define-syntax m (syntax-rules (...) ((_ a ...) 'a) ((_ a b) 'b))) (m 1 ...) (m 1 2)", "(begin '1 '2)")
	check(t, "(define-syntax m (syntax-rules (_) ((_ _) 1) ((_ a) 2))) (m _) (m a)", "(begin '1 '2)")
}

func TestLiterals(t *testing.T) {
	const m = "(define-syntax m (syntax-rules (k) ((_ k) 'like) ((_ a) 'other))) "
	checkAll(t, [][2]string{
		// Both not bound, and alike.
		{m + "(m k)", "'like"},
		{m + "(m l)", "'other"},
		{m + "(m 1)", "'other"},
		{m + "(m \"k\")", "'other"},
		{m + "(m (k))", "'other"},
		{m + `(m |k\x0;1|)`, "'other"},
		{m + "(m K)", "'other"},
		{m + "(lambda (l) (m k))", "(lambda (v1) 'like)"},
		{m + "(define-syntax n (syntax-rules () ((_) (m k)))) (n)", "'like"},
		{m + "(define-syntax n (syntax-rules () ((_ a) (m a)))) (n k)", "'like"},
		{m + "(define-syntax n (syntax-rules () ((_) (n2 k)))) (define-syntax n2 (syntax-rules () ((_ a) (m a)))) (n)", "'like"},
		{"(define-syntax n (syntax-rules () ((_ m) (define-syntax m (syntax-rules (k) ((_ k) 'like) ((_ a) 'other)))))) (n m) (m k)", "'like"},
		{"(define-syntax n (syntax-rules () ((_ m l) (define-syntax m (syntax-rules (l) ((_ l) 'like) ((_ a) 'other)))))) (n m k) (m k) (m l)", "(begin 'like 'other)"},
		{"(define-syntax m (syntax-rules (k) ((_ k k) 'both) ((_ k a) 'first) ((_ a k) 'last) ((_ a b) 'none))) (define-syntax n (syntax-rules () ((_ a) (m k a)))) (n k) (n l) (lambda (k) (n k) (m k k))", "(begin 'both (begin 'first (lambda (v1) (begin 'first 'none))))"},
		{"(define-syntax m (syntax-rules (k) ((_ k k) 'both) ((_ k a) 'first) ((_ a k) 'last) ((_ a b) 'none))) (lambda (k) (define-syntax n (syntax-rules () ((_ a) (m k a)))) (lambda () (n k))) (define-syntax o (syntax-rules () ((_ a) (lambda (k) (m k a) (m a k))))) (o k)", "(begin (lambda (v1) (lambda () 'none)) (lambda (v2) (begin 'last 'first)))"},
		// One is bound, the other is not.
		{m + "(lambda (k) (m k))", "(lambda (v1) 'other)"},
		{m + "(lambda () (define k 1) (m k))", "(lambda () (let v1 '#v (begin (set! v1 '1) 'other)))"},
		{m + "(let-syntax ((k (syntax-rules ()))) (m k))", "'other"},
		{"(lambda (k) (define-syntax m (syntax-rules (k) ((_ k) 'like) ((_ a) 'other))) (lambda (k) (m k)))", "(lambda (v1) (lambda (v2) 'other))"},
		{m + "(define-syntax n (syntax-rules () ((_) (lambda (k) (m k))))) (n)", "(lambda (v1) 'other)"},
		{"(lambda (k) " + m + "(define-syntax n (syntax-rules () ((_) (m k)))) (n))", "(lambda (v1) 'like)"},
		{m + "(define-syntax n (syntax-rules () ((_) (m k)))) (lambda (k) (n))", "(lambda (v1) 'like)"},
		// Both mean the same: a variable, a macro, a form, a primitive.
		{"(lambda (k) " + m + "(m k))", "(lambda (v1) 'like)"},
		{"(lambda (k) " + m + "(lambda (l) (m k)))", "(lambda (v1) (lambda (v2) 'like))"},
		{"(lambda (k) " + m + "(lambda (k) (m k)))", "(lambda (v1) (lambda (v2) 'other))"},
		{"(define k 1) " + m + "(lambda () (m k))", "(let v1 '#v (begin (set! v1 '1) (lambda () 'like)))"},
		{m + "(lambda () (m k)) (define k 1)", "(let v1 '#v (begin (lambda () 'like) (begin (set! v1 '1) (%void))))"},
		{"(let-syntax ((k (syntax-rules ()))) " + m + "(m k))", "'like"},
		{"(let-syntax ((k (syntax-rules ()))) " + m + "(let-syntax ((k (syntax-rules ()))) (m k)))", "'other"},
	})
	for _, name := range append(append(formNames, macroNames...), numbered...) {
		k := strings.ReplaceAll("(define-syntax m (syntax-rules (k) ((_ k) 'like) ((_ a) 'other))) ", "k)", name+")")
		check(t, k+"(m "+name+")", "'like")
		check(t, k+"(m car) (m let) (m if) (m k)", "(begin '"+likeIf(name == "car")+" (begin '"+likeIf(name == "let")+" (begin '"+likeIf(name == "if")+" 'other)))")
		check(t, k+"(lambda ("+name+") (m "+name+"))", "(lambda (v1) 'other)")
		check(t, k+"(define-syntax n (syntax-rules () ((_) (m "+name+")))) (lambda ("+name+") (n))", "(lambda (v1) 'like)")
	}
	// Literals within lists, with dots behind them, and as a Tail; two that mean the same are each like it.
	const cut = "(define-syntax m (syntax-rules (k l) ((_ k ... (a l)) '(a)) ((_ (a l) (b l . k) ...) '(a b ...)) ((_ k a ... . b) '((a ...) b)))) "
	checkAll(t, [][2]string{
		{cut + "(m k k (1 l))", "'(1)"},
		{cut + "(m (1 l))", "'(1)"},
		{cut + "(m (1 l) (2 l . k) (3 l . k))", "'(1 2 3)"},
		{cut + "(m k (1 k))", "'(((1 k)) ())"},
		{cut + "(m k (1 l) l)", "'(((1 l) l) ())"},
		{"(define-syntax n (syntax-rules () ((_ m k) (define-syntax m (syntax-rules (k l) ((_ k (l)) 1) ((_ a b) 2)))))) (n m l) (m l (l)) (m k (l)) (m l (k))", "(begin '1 (begin '2 '2))"},
	})
	checkWrong(t, cut+"(m l)", 1, api.ErrSyntax)
	checkWrong(t, cut+"(m (1 l) (2 l . l))", 1, api.ErrSyntax)
	checkWrong(t, cut+"(lambda (l) (m (1 l)))", 1, api.ErrSyntax)
}

func likeIf(is bool) string {
	if is {
		return "like"
	}
	return "other"
}
