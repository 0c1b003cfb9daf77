package expand

import (
	"strconv"
	"strings"
	"testing"

	"pavane/api"
	"pavane/datum"
)

func TestVariablesAreNumbered(t *testing.T) {
	checkAll(t, [][2]string{
		// A lambda's as it is met, from the left and from the outside on.
		{"((lambda (a) (lambda (b) a)) (lambda (c d) c) (lambda e e))", "((lambda (v1) (lambda (v2) v1)) (lambda (v3 v4) v3) (lambda v5 v5))"},
		{"(if (lambda (a) a) (lambda (b) (lambda (c) b)) (lambda (d) d))", "(if (lambda (v1) v1) (lambda (v2) (lambda (v3) v2)) (lambda (v4) v4))"},
		{"(begin (lambda (a) a) (lambda (b) b))", "(begin (lambda (v1) v1) (lambda (v2) v2))"},
		{"(lambda (a) (set! a (lambda (b) b)) (cons (lambda (c) c) (lambda (d) d)))", "(lambda (v1) (begin (set! v1 (lambda (v2) v2)) (%cons (lambda (v3) v3) (lambda (v4) v4))))"},
		{"(+ (lambda (a) a) (lambda (b) b) (lambda (c) c))", "(%+ (%+ (lambda (v1) v1) (lambda (v2) v2)) (lambda (v3) v3))"},
		{"(lambda (a) car (lambda (b) b))", "(lambda (v1) (begin (lambda (v2) (%car v2)) (lambda (v3) v3)))"},
		// A defined one's as its definition is, ahead of those of all the expressions.
		{"(lambda (a) a) (define x (lambda (b) b)) (define (y c) c)", "(let v1 '#v (let v2 '#v (begin (lambda (v3) v3) (begin (set! v1 (lambda (v4) v4)) (begin (set! v2 (lambda (v5) v5)) (%void))))))"},
		{"(lambda (a) (define x (lambda (b) b)) (define (y c) c) (lambda (d) d))", "(lambda (v1) (let v2 '#v (let v3 '#v (begin (set! v2 (lambda (v4) v4)) (begin (set! v3 (lambda (v5) v5)) (lambda (v6) v6))))))"},
		{"(define (f a) (define b a) (lambda (c) b)) (define g 1)", "(let v1 '#v (let v2 '#v (begin (set! v1 (lambda (v3) (let v4 '#v (begin (set! v4 v3) (lambda (v5) v4))))) (begin (set! v2 '1) (%void)))))"},
		{"(lambda (a) (lambda () (define x a) x) (lambda () (define y a) y))", "(lambda (v1) (begin (lambda () (let v2 '#v (begin (set! v2 v1) v2))) (lambda () (let v3 '#v (begin (set! v3 v1) v3)))))"},
		{"(let ((x (lambda (a) a)) (y car)) (lambda (b) b))", "((lambda (v1 v2) (lambda (v3) v3)) (lambda (v4) v4) (lambda (v5) (%car v5)))"},
	})
	l := program(t, "(lambda (x) 1)")
	l[0].Items[1] = datum.Items(many(4000)...)
	e, at, err := Program(l)
	if at != 0 || err != api.OK || wrongIn(e) != "" || len(e.Vars) != 4000 {
		t.Fatalf("4000 variables: %d, %v, %s", at, err, wrongIn(e))
	}
	for i, v := range e.Vars {
		if v != i+1 {
			t.Fatalf("variable %d: %d", i+1, v)
		}
	}
}

// many are so many symbols, no two alike.
func many(n int) []api.Datum {
	var out []api.Datum
	for i := range n {
		out = append(out, datum.Symbol("s"+strconv.Itoa(i)))
	}
	return out
}

// nested is a text in that many of these: open ahead, close behind.
func nested(open, s, close string, times int) string {
	return strings.Repeat(open, times) + s + strings.Repeat(close, times)
}

// chain is macros of which a use with n more data makes n + 1 uses in one another, and then what is given.
func chain(rule string) string {
	return "(define-syntax chain (syntax-rules () " + rule + " ((_ a b ...) (chain b ...)))) "
}

func TestFormsInOneAnother(t *testing.T) {
	// Data that may be too deep are refused ahead of all forms.
	check(t, nested("(car ", "1", ")", mostDeep-1), nested("(%car ", "'1", ")", mostDeep-1))
	check(t, nested("(begin ", "1", ")", mostDeep-1), "'1")
	check(t, nested("((", "1", "))", (mostDeep-1)/2), nested("((", "'1", "))", (mostDeep-1)/2))
	for _, open := range []string{"(car ", "(begin ", "(", "(lambda () "} {
		checkWrongData(t, open+"..", deep(t, open), 0, api.ErrSyntax)
	}
	// What a macro makes is a form in its use.
	for _, row := range []struct {
		s    string
		deep int
	}{
		{"1", 1}, {"car", 1}, {"x", 1}, {"(void)", 1}, {"(+)", 1}, {"(quote (((1))))", 1}, {"(begin)", 1}, {"(define-syntax n (syntax-rules () ((_ a) (((a))))))", 1},
		{"(car 1)", 2}, {"(+ 1)", 2}, {"(- 1)", 2}, {"(+ 1 2 3)", 2}, {"(* 1 2 3 4 5)", 2}, {"(1)", 2}, {"(x)", 2}, {"(1 2 3)", 2}, {"(if 1 2)", 2}, {"(if 1 2 3)", 2}, {"(begin 1)", 2}, {"(begin 1 2 3)", 2}, {"(set! x 1)", 2},
		{"(lambda a 1)", 2}, {"(lambda (a b . c) 1 2)", 2}, {"(define x 1)", 2}, {"(define (x a) 1 2)", 2}, {"(let-syntax () 1)", 2}, {"(letrec-syntax ((n (syntax-rules () ((_) (((1))))))) 1)", 2}, {"(one)", 2},
		{"(car (car 1))", 3}, {"(1 (1))", 3}, {"((1))", 3}, {"(if 1 (x))", 3}, {"(begin 1 (begin 2))", 3}, {"(lambda () (define y 1) y)", 3}, {"(lambda () (begin 1) 2)", 3}, {"(define (x) (define y 1) y)", 3}, {"(begin (define x 1))", 3}, {"(lambda () 1 (one))", 3}, {"(let-syntax ((n (syntax-rules () ((_) 1)))) (n))", 3}, {"(car (one))", 3},
		{"(let () 1)", 4}, {"(and 1 2)", 4}, {"(and 1 2 3)", 6}, {"(let* ((a 1)) a)", 9},
	} {
		s := "(define x 0) (define-syntax one (syntax-rules () ((_) 1))) " + chain("((_) "+row.s+")")
		most := mostDeep - row.deep - 1
		made(t, s+"(chain "+repeated("1", most)+")")
		checkWrong(t, s+"1 (chain "+repeated("1", most+1)+") zzz", 4, api.ErrDeep)
	}
	const one = "((_) 1)"
	check(t, chain(one)+"(chain "+repeated("1", mostDeep-2)+")", "'1")
	check(t, chain(one)+"(car (chain "+repeated("1", mostDeep-3)+"))", "(%car '1)")
	checkWrong(t, chain(one)+"(car (chain "+repeated("1", mostDeep-2)+"))", 1, api.ErrDeep)
	checkWrong(t, chain(one)+"(lambda () (define x (chain "+repeated("1", mostDeep-3)+")) x)", 1, api.ErrDeep)
	// One that makes itself again and again.
	const again = "(define-syntax m (syntax-rules () ((_ . a) (m . a)))) "
	checkWrong(t, again+"(m)", 1, api.ErrDeep)
	checkWrong(t, again+"0 (car (m 1 2))", 2, api.ErrDeep)
	checkWrong(t, again+"(lambda () (define x (m)) x)", 1, api.ErrDeep)
	checkWrong(t, "(define-syntax m (syntax-rules () ((_ a) (begin (m a) (m a))))) (m 1)", 1, api.ErrDeep)
	checkWrong(t, "(define-syntax m (syntax-rules () ((_ a) (lambda () (m a))))) (m 1)", 1, api.ErrDeep)
	checkWrong(t, "(define-syntax m (syntax-rules () ((_) (n)))) (define-syntax n (syntax-rules () ((_) (m)))) (n)", 2, api.ErrDeep)
}

// deep is a list of one datum, which is one deeper than a datum may be.
func deep(t *testing.T, open string) []api.Datum {
	t.Helper()
	l := program(t, open+"1)")
	for datum.Depth(l[0]) <= mostDeep {
		d := program(t, open+"1)")[0]
		d.Items[len(d.Items)-1] = l[0]
		l[0] = d
	}
	return l
}

func TestUsesOfMacros(t *testing.T) {
	const m = "(define-syntax m (syntax-rules () ((_) 1) ((_ a) 2))) "
	e := made(t, m+repeated("(m)", mostMacros))
	for range mostMacros - 1 {
		e = e.Kids[1]
	}
	if shown(e) != "'1" {
		t.Errorf("the last of %d uses: %s", mostMacros, shown(e))
	}
	checkWrong(t, m+repeated("(m)", mostMacros+1), mostMacros+1, api.ErrLong)
	checkWrong(t, m+repeated("(m)", mostMacros)+"1 (begin 2 (m))", mostMacros+2, api.ErrLong)
	// Those of Base, and those in one another, count as others.
	for _, row := range []struct {
		s    string
		uses int
	}{{"(and)", 1}, {"(and 1)", 1}, {"(and 1 2)", 2}, {"(or 1 2)", 3}, {"(let () 1)", 1}, {"(let* ((y 1)) y)", 4}, {"(lambda () (m) (m))", 2}, {"(define x (m))", 1}, {"(let-syntax ((n (syntax-rules () ((_) (m))))) (n) (n))", 4}} {
		left := mostMacros - row.uses
		made(t, m+repeated("(m)", left)+row.s)
		checkWrong(t, m+repeated("(m)", left+1)+row.s, left+2, api.ErrLong)
	}
	made(t, m+repeated("(m)", mostMacros)+"(quote (m)) (let-syntax ((m (syntax-rules ()))) 1) (lambda (m) (m)) (define-syntax m (syntax-rules ()))")
	// A use that no rule is for is one, too.
	checkWrong(t, m+repeated("(m)", mostMacros-1)+"(m 1 2)", mostMacros, api.ErrSyntax)
	checkWrong(t, m+repeated("(m)", mostMacros)+"(m 1 2)", mostMacros+1, api.ErrLong)
}

func TestExpressions(t *testing.T) {
	for _, row := range []struct {
		s           string
		expressions int
	}{
		{"1", 1}, {"(void)", 1}, {"(+)", 1}, {"(+ (+ 1))", 1}, {"(quote (a b c))", 1}, {"(car 1)", 2}, {"newline", 2}, {"car", 3}, {"cons", 4}, {"(- 1)", 3}, {"(+ 1 2)", 3}, {"(+ (+ 1) (*) 2)", 5}, {"(1 2 3)", 4},
		{"(if 1 2 3)", 4}, {"(if 1 2)", 4}, {"(begin 1 2)", 3}, {"(car (begin 1 2 3))", 6}, {"(lambda (a) a)", 2}, {"(lambda (a b c) a a)", 4}, {"(lambda (a) (set! a 1))", 3}, {"(let ((a 1)) a)", 4},
		{"(lambda () (define a 1) a)", 7}, {"(lambda () (define (a) 1) (define b 2) a)", 13}, {"(let-syntax ((m (syntax-rules () ((_) 1)))) (m) (m))", 3},
		// Behind a definition at its end there is one more.
		{"(define a 1)", 6},
	} {
		// Of n constants, and what is behind them, n sequences are made; of a call of car ahead, three.
		n, odd, even := (mostExpressions-row.expressions)/2, "(car 1)", ""
		if row.expressions%2 != 0 {
			n, odd, even = (mostExpressions-row.expressions-3)/2, "", "(car 1)"
		}
		if got := sizeOf(made(t, repeated("1", n)+even+row.s)); got != mostExpressions {
			t.Errorf("expressions of %s, and constants ahead: %d, want %d", row.s, got, mostExpressions)
		}
		l := program(t, repeated("1", (mostExpressions+1-row.expressions-3*len(odd)/7)/2)+odd+row.s)
		checkWrongData(t, "constants and "+row.s, l, len(l)-1, api.ErrLong)
	}
	half := mostExpressions / 2
	check(t, "(+ "+repeated("1", half)+")", nested("(%+ ", "", "", half-1)+"'1 "+strings.TrimSuffix(repeated("'1)", half-1), " "))
	checkWrong(t, "(lambda () "+repeated("1", half+1)+")", 0, api.ErrLong)
	checkWrong(t, "(+ "+repeated("1", half+1)+")", 0, api.ErrLong)
	checkWrong(t, "(* 1 "+repeated("1", half)+")", 0, api.ErrLong)
	checkWrong(t, "0 (car (begin "+repeated("1", half)+"))", 1, api.ErrLong)
}

func TestExpressionsOfDefinitions(t *testing.T) {
	// Each has four, and a sequence; behind all there is one more.
	most := (mostExpressions - 1) / 5
	if got := sizeOf(made(t, definitions(most))); got != 5*most+1 {
		t.Errorf("expressions of %d definitions: %d", most, got)
	}
	for _, s := range []string{definitions(most + 1), definitions(most + 2), definitions(most + 50)} {
		if e, _, err := Program(program(t, s)); err != api.ErrLong || !isZero(e) {
			t.Errorf("more definitions than there may be: %v", err)
		}
	}
}

// definitions are so many definitions of variables, no two alike.
func definitions(n int) string {
	var out strings.Builder
	for i := range n {
		out.WriteString("(define a" + strconv.Itoa(i) + " 1)")
	}
	return out.String()
}

func sizeOf(e api.Expr) int {
	size := 1
	for _, kid := range e.Kids {
		size += sizeOf(kid)
	}
	return size
}
