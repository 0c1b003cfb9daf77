package expand

import (
	"strings"
	"testing"

	"pavane/api"
	"pavane/datum"
	"pavane/reader"
)

func TestFirstError(t *testing.T) {
	for _, row := range []struct {
		s   string
		at  int
		err api.Errno
	}{
		// From the left.
		{"zzz", 0, api.ErrBound},
		{"1 zzz", 1, api.ErrBound},
		{"1 2 3 (car zzz) 5", 3, api.ErrBound},
		{"zzz (if)", 0, api.ErrBound},
		{"(if) zzz", 0, api.ErrSyntax},
		{"1 (cons zzz (if)) (if)", 1, api.ErrBound},
		{"1 (cons (if) zzz) zzz", 1, api.ErrSyntax},
		{"(define x zzz) (if)", 0, api.ErrBound},
		{"(define (f) 1 (if)) zzz", 0, api.ErrSyntax},
		{"(define (f x) (g x)) (f 1)", 0, api.ErrBound},
		{"(begin 1 2) (begin 3 zzz)", 1, api.ErrBound},
		{"(begin 1 (begin zzz (if)))", 0, api.ErrBound},
		{"1 (define-syntax m (syntax-rules () ((_ a) zzz))) (m 1)", 2, api.ErrBound},
		{"1 (define-syntax m (syntax-rules () ((_ a) (begin 1 (define x a) (car x zzz))))) (m zzz) (m 2)", 2, api.ErrBound},
		{"(lambda () zzz (if))", 0, api.ErrBound},
		{"(lambda () (define x zzz) (if))", 0, api.ErrBound},
		{"(lambda () (if) zzz)", 0, api.ErrSyntax},
		// From the outside on.
		{"(if zzz)", 0, api.ErrSyntax},
		{"(car zzz 1)", 0, api.ErrSyntax},
		{"(lambda (x x) zzz)", 0, api.ErrSyntax},
		{"(lambda (x) (define y zzz))", 0, api.ErrSyntax},
		{"(set! zzz (if))", 0, api.ErrBound},
		{"(set! car zzz)", 0, api.ErrSyntax},
		{"(zzz (if))", 0, api.ErrBound},
		{"((if) zzz)", 0, api.ErrSyntax},
		{"(let ((x zzz)) (if))", 0, api.ErrSyntax},
		{"(let ((x (if))) zzz)", 0, api.ErrBound},
		{"(let ((x zzz)))", 0, api.ErrSyntax},
		{"(let-syntax ((m 1)) zzz)", 0, api.ErrSyntax},
		{"(quote zzz (if))", 0, api.ErrSyntax},
		// All is looked through for definitions ahead of expressions.
		{"zzz (define)", 1, api.ErrSyntax},
		{"zzz (define x)", 1, api.ErrSyntax},
		{"zzz (define 1 2)", 1, api.ErrSyntax},
		{"zzz (define (f))", 1, api.ErrSyntax},
		{"zzz (define-syntax x)", 1, api.ErrSyntax},
		{"zzz (define-syntax x 1)", 1, api.ErrSyntax},
		{"zzz (begin 1 (define x 1 2))", 1, api.ErrSyntax},
		{"zzz 1 (let)", 2, api.ErrSyntax},
		{"zzz (define-syntax m (syntax-rules () ((_) (m)))) (m)", 2, api.ErrDeep},
		{"(define x zzz) (define)", 1, api.ErrSyntax},
		{"(define) (define-syntax)", 0, api.ErrSyntax},
		{"(lambda () (define x zzz) (define y) x)", 0, api.ErrSyntax},
		{"(lambda () (define x zzz) (let) x)", 0, api.ErrSyntax},
		{"(lambda () (define x (if)) (define y zzz))", 0, api.ErrSyntax},
		{"(lambda () (define x zzz) (define y (if)) x)", 0, api.ErrBound},
		{"(lambda () (define x 1) (car zzz) (car))", 0, api.ErrBound},
	} {
		checkWrong(t, row.s, row.at, row.err)
	}
}

// wrongData are data that are not Good.
func wrongData(t *testing.T) []api.Datum {
	t.Helper()
	out := []api.Datum{
		{Kind: -1}, {Kind: 6}, {Kind: 1 << 62},
		{Kind: api.Sym}, {Kind: api.Sym, S: strings.Repeat("a", 65)}, {Kind: api.Str, S: strings.Repeat("a", 1025)},
		{Kind: api.Nothing, S: "a"}, {Kind: api.Bool, S: "a"}, {Kind: api.Sym, S: "car", B: true}, {Kind: api.Str, S: "a", Items: []api.Datum{{}}},
		{Kind: api.Num, I: api.Int{Neg: true}}, {Kind: api.Num, I: api.Int{L: []uint32{1, 0}}}, {Kind: api.Num, I: api.Int{L: make([]uint32, 65)}},
		{Kind: api.List, Tail: []api.Datum{datum.Number(1)}},
		{Kind: api.List, Items: []api.Datum{datum.Symbol("void")}, Tail: []api.Datum{{Kind: api.List}}},
		{Kind: api.List, Items: []api.Datum{datum.Symbol("void")}, Tail: []api.Datum{{}, {}}},
		{Kind: api.List, Items: []api.Datum{datum.Symbol("void")}, S: "x"},
		{Kind: api.List, Items: []api.Datum{datum.Symbol("quote"), {Kind: 7}}},
		{Kind: api.List, Items: []api.Datum{datum.Symbol("quote"), {Kind: api.Sym}}},
		{Kind: api.List, Items: append([]api.Datum{datum.Symbol("quote")}, datum.Items(many(5000)...))},
		deep(t, "(begin ")[0],
	}
	itself := api.Datum{Kind: api.List, Items: make([]api.Datum, 2)}
	itself.Items[0] = datum.Symbol("begin")
	itself.Items[1] = itself
	return append(out, itself)
}

func TestDataNotGood(t *testing.T) {
	for i, d := range wrongData(t) {
		if datum.Good(d) {
			t.Fatalf("datum %d is Good", i)
		}
		what := "a datum that is not Good: " + string(rune('a'+i))
		for _, ahead := range []string{"", "1", "1 2 (define x 1)", "zzz", "zzz (car)", "x (define x zzz)"} {
			l := program(t, ahead)
			checkWrongData(t, what, append(l, d), len(l), api.ErrSyntax)
			checkWrongData(t, what, append(l, d, datum.Symbol("zzz"), d), len(l), api.ErrSyntax)
		}
		// What is wrong to the left of it is told.
		checkWrongData(t, what, append(program(t, "1 (define)"), d), 1, api.ErrSyntax)
		checkWrongData(t, what, append(program(t, "(define-syntax m (syntax-rules () ((_) (m)))) (m)"), d), 1, api.ErrDeep)
	}
}

// TestEveryTextEnds: whatever is read comes to an expression that may be, or to an error and its place.
func TestEveryTextEnds(t *testing.T) {
	atoms := strings.Fields("1 x y car + if lambda define begin let m quote set! let-syntax define-syntax (syntax-rules()((_)1)) () . ...")
	var try func(s string, more int)
	try = func(s string, more int) {
		for _, text := range []string{s, "(" + s + ")", "(lambda (x) " + s + ")", "(define-syntax m (syntax-rules () ((_ x) (x y)))) (lambda y (" + s + ") (m 1))"} {
			if l, _, err := reader.All(text); err == api.OK {
				checkEnds(t, text, l)
			}
		}
		if more == 0 {
			return
		}
		for _, atom := range atoms {
			try(s+" "+atom, more-1)
		}
	}
	try("", 3)
}

func checkEnds(t *testing.T, s string, l []api.Datum) {
	t.Helper()
	e, at, err := Program(l)
	wrong := wrongIn(e)
	switch {
	case err == api.OK && (at != 0 || wrong != ""):
		t.Errorf("Program of %s: %s, %d, %s", s, shown(e), at, wrong)
	case err != api.OK && (err != api.ErrSyntax && err != api.ErrBound || !isZero(e) || at < 0 || at >= len(l)):
		t.Errorf("Program of %s: %s, %d, %v", s, shown(e), at, err)
	}
}

func TestVariablesTooMany(t *testing.T) {
	// More variables than chapter 8 has numbers for: nothing is made that is not Good.
	f := one(t, "(lambda x 1)")
	f.Items[1] = datum.Items(many(4900)...)
	var l []api.Datum
	for range greatestNumber/4900 + 1 {
		l = append(l, f)
	}
	checkWrongData(t, "a million of variables and more", l, len(l)-1, api.ErrLong)
	if e, _, err := Program(l[1:]); err != api.OK || wrongIn(e) != "" {
		t.Errorf("a million of variables: %v, %s", err, wrongIn(e))
	}
}
