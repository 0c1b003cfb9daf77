package expand

import (
	"strings"
	"testing"

	"pavane/api"
	"pavane/reader"
)

// baseLines are the lines of the document's text of Base.
var baseLines = []string{
	`(define-syntax let (syntax-rules () ((_ ((n v) ...) b c ...) ((lambda (n ...) b c ...) v ...)) ((_ t ((n v) ...) b c ...) ((letrec ((t (lambda (n ...) b c ...))) t) v ...))))`,
	`(define-syntax let* (syntax-rules () ((_ () b c ...) (let () b c ...)) ((_ ((n v) r ...) b c ...) (let ((n v)) (let* (r ...) b c ...)))))`,
	`(define-syntax letrec (syntax-rules () ((_ ((n v) ...) b c ...) ((lambda () (define n v) ... (let () b c ...))))))`,
	`(define-syntax letrec* (syntax-rules () ((_ ((n v) ...) b c ...) ((lambda () (define n v) ... (let () b c ...))))))`,
	`(define-syntax and (syntax-rules () ((_) #t) ((_ a) a) ((_ a b ...) (if a (and b ...) #f))))`,
	`(define-syntax or (syntax-rules () ((_) #f) ((_ a) a) ((_ a b ...) (let ((x a)) (if x x (or b ...))))))`,
	`(define-syntax when (syntax-rules () ((_ a b c ...) (if a (begin b c ...)))))`,
	`(define-syntax unless (syntax-rules () ((_ a b c ...) (if a (void) (begin b c ...)))))`,
	`(define-syntax cond (syntax-rules (else =>) ((_ (else a b ...)) (begin a b ...)) ((_ (a => f)) (let ((x a)) (if x (f x)))) ((_ (a => f) c d ...) (let ((x a)) (if x (f x) (cond c d ...)))) ((_ (a)) a) ((_ (a) c d ...) (or a (cond c d ...))) ((_ (a b e ...)) (if a (begin b e ...))) ((_ (a b e ...) c d ...) (if a (begin b e ...) (cond c d ...)))))`,
	`(define-syntax case (syntax-rules (else) ((_ (a ...) c ...) (let ((x (a ...))) (case x c ...))) ((_ a (else b e ...)) (begin b e ...)) ((_ a ((k ...) b e ...)) (if (or (eq? a (quote k)) ...) (begin b e ...))) ((_ a ((k ...) b e ...) c d ...) (if (or (eq? a (quote k)) ...) (begin b e ...) (case a c d ...)))))`,
	`(define-syntax do (syntax-rules () ((_ "next" x) x) ((_ "next" x y) y) ((_ ((n v s ...) ...) (t e ...) c ...) (letrec ((loop (lambda (n ...) (if t (begin (void) e ...) (begin c ... (loop (do "next" n s ...) ...)))))) (loop v ...)))))`,
}

func TestBaseText(t *testing.T) {
	want := strings.Join(baseLines, "\n") + "\n"
	if got := Base(); got != want {
		for i, line := range strings.Split(got, "\n") {
			if i >= len(baseLines) || line != baseLines[i] {
				t.Errorf("line %d of Base: %q", i+1, line)
			}
		}
		t.Errorf("Base has %d bytes, want %d", len(got), len(want))
	}
	l, _, err := reader.All(Base())
	if err != api.OK || len(l) != len(macroNames) {
		t.Fatalf("Base: %d data, %v", len(l), err)
	}
	for i, d := range l {
		if d.Items[1].S != macroNames[i] {
			t.Errorf("macro %d of Base: %s", i+1, d.Items[1].S)
		}
	}
}

func TestBaseIsAProgram(t *testing.T) {
	check(t, Base(), "(%void)")
	check(t, Base()+"(let ((x 1)) (or x (cond (2 => car) (else (do ((i 0)) (i) 3)))))", shown(made(t, "(let ((x 1)) (or x (cond (2 => car) (else (do ((i 0)) (i) 3)))))")))
}

// TestBaseRules has each macro with each of its rules.
func TestBaseRules(t *testing.T) {
	checkAll(t, [][2]string{
		{"(let ((x 1)) (+ x 1))", "((lambda (v1) (%+ v1 '1)) '1)"},
		{"(let () 1)", "((lambda () '1))"},
		{"(let ((x 1) (y 2)) x y)", "((lambda (v1 v2) (begin v1 v2)) '1 '2)"},
		{"(lambda (x) (let ((x (car x)) (y x)) (x y)))", "(lambda (v1) ((lambda (v2 v3) (v2 v3)) (%car v1) v1))"},
		{"(let ((x 1)) (define y x) y)", "((lambda (v1) (let v2 '#v (begin (set! v2 v1) v2))) '1)"},
		{"(let f ((x 1)) (f x))", "(((lambda () (let v1 '#v (begin (set! v1 (lambda (v2) (v1 v2))) ((lambda () v1)))))) '1)"},
		{"(let f () 1 2)", "(((lambda () (let v1 '#v (begin (set! v1 (lambda () (begin '1 '2))) ((lambda () v1)))))))"},
		{"(let let ((x 1)) (let x))", "(((lambda () (let v1 '#v (begin (set! v1 (lambda (v2) (v1 v2))) ((lambda () v1)))))) '1)"},
		{"(let* () 1 2)", "((lambda () (begin '1 '2)))"},
		{"(let* ((x 1)) x)", "((lambda (v1) ((lambda () v1))) '1)"},
		{"(let* ((x 1) (x (car x))) x x)", "((lambda (v1) ((lambda (v2) ((lambda () (begin v2 v2)))) (%car v1))) '1)"},
		{"(letrec ((f (lambda () (g))) (g f)) (f) g)", "((lambda () (let v1 '#v (let v2 '#v (begin (set! v1 (lambda () (v2))) (begin (set! v2 v1) ((lambda () (begin (v1) v2)))))))))"},
		{"(letrec () 1)", "((lambda () ((lambda () '1))))"},
		{"(letrec ((x 1)) (define x 2) x)", "((lambda () (let v1 '#v (begin (set! v1 '1) ((lambda () (let v2 '#v (begin (set! v2 '2) v2))))))))"},
		{"(letrec* ((x 1) (y x)) y)", "((lambda () (let v1 '#v (let v2 '#v (begin (set! v1 '1) (begin (set! v2 v1) ((lambda () v2))))))))"},
		{"(and)", "'#t"},
		{"(and 1)", "'1"},
		{"(and 1 2)", "(if '1 '2 '#f)"},
		{"(and 1 2 3)", "(if '1 (if '2 '3 '#f) '#f)"},
		{"(or)", "'#f"},
		{"(or 1)", "'1"},
		{"(or 1 2)", "((lambda (v1) (if v1 v1 '2)) '1)"},
		{"(or 1 2 3)", "((lambda (v1) (if v1 v1 ((lambda (v2) (if v2 v2 '3)) '2))) '1)"},
		{"(lambda (x) (or 1 x))", "(lambda (v1) ((lambda (v2) (if v2 v2 v1)) '1))"},
		{"(when 1 2)", "(if '1 '2 (%void))"},
		{"(when 1 2 3)", "(if '1 (begin '2 '3) (%void))"},
		{"(unless 1 2)", "(if '1 (%void) '2)"},
		{"(unless 1 2 3)", "(if '1 (%void) (begin '2 '3))"},
		{"(cond (else 1))", "'1"},
		{"(cond (else 1 2))", "(begin '1 '2)"},
		{"(cond (1 => car))", "((lambda (v1) (if v1 (%car v1) (%void))) '1)"},
		{"(lambda (f) (cond (1 => f)))", "(lambda (v1) ((lambda (v2) (if v2 (v1 v2) (%void))) '1))"},
		{"(cond (1 => car) (else 2))", "((lambda (v1) (if v1 (%car v1) '2)) '1)"},
		{"(cond (1))", "'1"},
		{"(cond (1) (2))", "((lambda (v1) (if v1 v1 '2)) '1)"},
		{"(cond (1 2))", "(if '1 '2 (%void))"},
		{"(cond (1 2 3))", "(if '1 (begin '2 '3) (%void))"},
		{"(cond (1 2) (3 4 5) (else 6))", "(if '1 '2 (if '3 (begin '4 '5) '6))"},
		{"(cond (1 2) (3 => car) (4) (5 6))", "(if '1 '2 ((lambda (v1) (if v1 (%car v1) ((lambda (v2) (if v2 v2 (if '5 '6 (%void)))) '4))) '3))"},
		{"(lambda (else) (cond (else 1)))", "(lambda (v1) (if v1 '1 (%void)))"},
		{"(lambda (=>) (cond (1 => 2)))", "(lambda (v1) (if '1 (begin v1 '2) (%void)))"},
		{"(lambda (x) (cond (1) (2 => x) (else x)))", "(lambda (v1) ((lambda (v2) (if v2 v2 ((lambda (v3) (if v3 (v1 v3) v1)) '2))) '1))"},
		{"(case 1 (else 2))", "'2"},
		{"(case 1 (else 2 3))", "(begin '2 '3)"},
		{"(case 1 ((2) 3))", "(if (%eq? '1 '2) '3 (%void))"},
		{"(case 1 (() 3))", "(if '#f '3 (%void))"},
		{"(case 1 ((2 a) 3 4))", "(if ((lambda (v1) (if v1 v1 (%eq? '1 'a))) (%eq? '1 '2)) (begin '3 '4) (%void))"},
		{"(case 1 ((2) 3) ((4) 5) (else 6))", "(if (%eq? '1 '2) '3 (if (%eq? '1 '4) '5 '6))"},
		{"(case (car 1) ((2) 3) (else 4))", "((lambda (v1) (if (%eq? v1 '2) '3 '4)) (%car '1))"},
		{"(lambda (x) (case (x) ((x) x) (else x)))", "(lambda (v1) ((lambda (v2) (if (%eq? v2 'x) v1 v1)) (v1)))"},
		{"(do () (1))", "((lambda () (let v1 '#v (begin (set! v1 (lambda () (if '1 (%void) (v1)))) ((lambda () (v1)))))))"},
		{"(do ((i 1)) (i 2))", "((lambda () (let v1 '#v (begin (set! v1 (lambda (v2) (if v2 (begin (%void) '2) (v1 v2)))) ((lambda () (v1 '1)))))))"},
		{"(do ((i 1 (+ i 1)) (j 2)) ((= i j) i j) (car i) (cdr j))", "((lambda () (let v1 '#v (begin (set! v1 (lambda (v2 v3) (if (%= v2 v3) (begin (%void) (begin v2 v3)) (begin (%car v2) (begin (%cdr v3) (v1 (%+ v2 '1) v3)))))) ((lambda () (v1 '1 '2)))))))"},
		{"(lambda (loop) (do ((i loop)) (loop i) loop))", "(lambda (v1) ((lambda () (let v2 '#v (begin (set! v2 (lambda (v3) (if v1 (begin (%void) v3) (begin v1 (v2 v3))))) ((lambda () (v2 v1))))))))"},
		{"(do \"next\" 1)", "'1"},
		{"(do \"next\" 1 2)", "'2"},
	})
}

func TestBaseRulesWrong(t *testing.T) {
	checkAllWrong(t, api.ErrSyntax,
		"(let)", "(let ())", "(let x)", "(let ((x 1)))", "(let (x) x)", "(let ((x)) 1)", "(let ((x 1 2)) x)", "(let ((x 1) . y) x)", "(let ((1 2)) 3)", "(let ((x 1) (x 2)) x)", "(let 1 ((x 1)) x)", "(let f ((x 1)))", "(let ((x 1)) . x)", "(let f ((x 1) (x 2)) x)",
		"(let*)", "(let* ())", "(let* ((x 1)))", "(let* (x) 1)", "(let* ((x)) 1)", "(let* x 1)",
		"(letrec)", "(letrec ())", "(letrec ((x 1)))", "(letrec (x) 1)", "(letrec ((x)) 1)", "(letrec* ())", "(letrec* ((x 1 2)) x)",
		"(and . 1)", "(and 1 . 2)", "(or . 1)", "(or 1 . 2)",
		"(when)", "(when 1)", "(unless)", "(unless 1)",
		"(cond)", "(cond 1)", "(cond ())", "(cond (1) 2)", "(cond (1 2) ())", "(cond . 1)",
		"(case)", "(case 1)", "(case 1 2)", "(case 1 (2 3))", "(case 1 ((2)))", "(case 1 (else))", "(case 1 ((2) 3) 4)",
		"(do)", "(do ())", "(do () ())", "(do (i) (1))", "(do ((i)) (1))", "(do ((i 1 2 3)) (1))", "(do \"next\")", "(do \"other\" 1)",
	)
	checkAllWrong(t, api.ErrBound, "(let ((x x)) 1)", "(cond (else))", "(cond (=> 1))", "(cond (1 =>))", "(cond (1 => 2 3))", "(let ((x 1)) y)", "(do ((i i)) (1))", "(let f ((x f)) 1)", "(cond (1 2) (else => 3))")
}
