package match

import (
	"testing"

	"pavane/api"
	"pavane/write"
)

// bindsOf is what Match tells of pattern p and datum d.
func bindsOf(t *testing.T, p, d string) []Bind {
	t.Helper()
	out, ok := Match(read(t, p), read(t, d), nil)
	if !ok {
		t.Fatalf("%s does not match %s", d, p)
	}
	return out
}

func checkFilled(t *testing.T, template api.Datum, binds []Bind, want api.Datum) {
	t.Helper()
	got, err := Fill(template, binds)
	if err != api.OK || !exactly(got, want) {
		t.Errorf("Fill(%s, %s): %s, %v, want %s", shortened(write.Write(template)), shortened(shownBinds(binds)), shortened(write.Write(got)), err, shortened(write.Write(want)))
	}
}

func checkNotFilled(t *testing.T, template api.Datum, binds []Bind, want api.Errno) {
	t.Helper()
	got, err := Fill(template, binds)
	if err != want || !exactly(got, api.Datum{}) {
		t.Errorf("Fill(%s, %s): %s, %v, want %v", shortened(write.Write(template)), shortened(shownBinds(binds)), shortened(write.Write(got)), err, want)
	}
}

func TestFillSymbols(t *testing.T) {
	for _, d := range datums {
		binds := []Bind{{"a", leaf(read(t, d))}}
		checkFilled(t, sym("a"), binds, read(t, d))
		checkFilled(t, read(t, "(a b (a) a)"), binds, read(t, "("+d+" b ("+d+") "+d+")"))
		checkFilled(t, read(t, "(b . a)"), binds, read(t, "(b . "+d+")"))
		// Not bound it stays; what stands for a variable is not filled again.
		if d != "..." && d != "(...)" && d != "(a ...)" {
			checkFilled(t, read(t, d), nil, read(t, d))
			checkFilled(t, read(t, d), []Bind{{"q", leaf(sym("x"))}, {"", leaf(sym("y"))}}, read(t, d))
		}
	}
	checkFilled(t, read(t, "(a b c)"), []Bind{{"a", leaf(sym("b"))}, {"b", leaf(sym("c"))}, {"c", leaf(sym("a"))}}, read(t, "(b c a)"))
	checkFilled(t, read(t, "(_ __)"), []Bind{{"_", leaf(num(1))}}, read(t, "(1 __)"))
	checkFilled(t, read(t, `("a" a)`), []Bind{{"a", leaf(num(1))}}, read(t, `("a" 1)`))
	// Of two of one Name the first counts.
	checkFilled(t, read(t, "(a b)"), []Bind{{"a", leaf(num(1))}, {"b", leaf(num(2))}, {"a", leaf(num(3))}, {"b", many()}}, read(t, "(1 2)"))
	checkNotFilled(t, read(t, "(a)"), []Bind{{"a", many()}, {"a", leaf(num(1))}}, api.ErrSyntax)
	checkFilled(t, read(t, "(a ...)"), []Bind{{"a", leaves(num(1))}, {"a", leaves(num(2), num(3))}}, read(t, "(1)"))
	// Many, where no ... is behind it.
	for _, s := range []string{"a", "(a)", "(b a)", "(b . a)", "((a) b)", "(... a)", "(... (... a))", "(b ... a)", "(b ... . a)", "((b a) b ...)"} {
		checkNotFilled(t, read(t, s), []Bind{{"a", leaves(num(1))}, {"b", leaves(num(2), num(3))}}, api.ErrSyntax)
		checkNotFilled(t, read(t, s), []Bind{{"a", many()}, {"b", leaves(num(2))}}, api.ErrSyntax)
	}
}

// Of a tree that is Many D counts for nothing, of another one Kids.
func TestFillOtherFields(t *testing.T) {
	a := Tree{D: num(1), Kids: []Tree{leaf(num(2)), leaf(num(3))}}
	b := Tree{D: num(4), Many: true, Kids: []Tree{a, {D: num(5)}}}
	binds := []Bind{{"a", a}, {"b", b}}
	checkFilled(t, read(t, "(a b ... (a b) ...)"), binds, read(t, "(1 1 5 (1 1) (1 5))"))
	checkNotFilled(t, read(t, "(a ...)"), binds, api.ErrSyntax)
	checkNotFilled(t, read(t, "(b ... ...)"), binds, api.ErrSyntax)
	checkNotFilled(t, read(t, "b"), binds, api.ErrSyntax)
}

func TestFillMany(t *testing.T) {
	for _, x := range []struct{ p, d, template, want string }{
		{"(a b ...)", "(1 2 3)", "(b ... a)", "(2 3 1)"}, {"(a b ...)", "(1 2 3)", "(a b ...)", "(1 2 3)"}, {"(a b ...)", "(1)", "(b ... a)", "(1)"}, {"(a b ...)", "(1)", "(b ...)", "()"}, {"(a b ...)", "(1 2 3)", "(b ... b ...)", "(2 3 2 3)"}, {"(a b ...)", "(1 2 3)", "((b ...) (a) b ...)", "((2 3) (1) 2 3)"},
		// Those that are not Many stay.
		{"(a b ...)", "(1 2 3)", "((a b) ...)", "((1 2) (1 3))"}, {"(a b ...)", "(1 2 3)", "((a x b 5) ... a)", "((1 x 2 5) (1 x 3 5) 1)"}, {"(a b ...)", "(1 2 3)", "((b . a) ...)", "((2 . 1) (3 . 1))"}, {"(a b ...)", "(1 2 3)", "((a . b) ...)", "((1 . 2) (1 . 3))"}, {"(a b ...)", "((1) 2 3)", "((b . a) ...)", "((2 1) (3 1))"}, {"(a b ...)", "(1 2 3)", "((b b) ...)", "((2 2) (3 3))"},
		{"((a b) ...)", "((1 2) (3 4))", "((b a) ...)", "((2 1) (4 3))"}, {"((a b) ...)", "((1 2) (3 4))", "((a ...) b ...)", "((1 3) 2 4)"}, {"((a b) ...)", "((1 2) (3 4))", "((x (a) . b) ...)", "((x (1) . 2) (x (3) . 4))"},
		// ... within an item of ... .
		{"((a ...) ...)", "((1 2) () (3))", "((a ...) ...)", "((1 2) () (3))"}, {"((a b ...) ...)", "((1 2 3) (4) (5 6))", "((a b ...) ...)", "((1 2 3) (4) (5 6))"}, {"((a b ...) ...)", "((1 2 3) (4) (5 6))", "((a (b a) ...) ...)", "((1 (2 1) (3 1)) (4) (5 (6 5)))"}, {"((a b ...) ...)", "((1 2 3) (4))", "((b ... a) ... (a ...))", "((2 3 1) (4) (1 4))"}, {"(c (a b ...) ...)", "(x (1 2 3) (4))", "((c a (c b) ...) ...)", "((x 1 (x 2) (x 3)) (x 4))"}, {"(c ...)", "(1 2)", "((c (... ...)) ...)", "((1 ...) (2 ...))"},
		// Two and more ... behind one item.
		{"((a ...) ...)", "((1 2) () (3))", "(a ... ...)", "(1 2 3)"}, {"((a ...) ...)", "((1 2) () (3))", "(x a ... ... y a ... ... . z)", "(x 1 2 3 y 1 2 3 . z)"}, {"((a ...) ...)", "((1 2) () (3))", "((x a) ... ...)", "((x 1) (x 2) (x 3))"}, {"((a b ...) ...)", "((1 2 3) (4) (5 6))", "((a b) ... ...)", "((1 2) (1 3) (5 6))"}, {"((b ...) ...)", "()", "(b ... ...)", "()"}, {"(((a ...) ...) ...)", "(((1) (2 3)) () ((4)))", "(a ... ... ...)", "(1 2 3 4)"}, {"(((a ...) ...) ...)", "(((1) (2 3)) () ((4)))", "((a ... ...) ...)", "((1 2 3) () (4))"}, {"(((a ...) ...) ...)", "(((1) (2 3)) () ((4)))", "((a ...) ... ...)", "((1) (2 3) (4))"}, {"(((a ...) ...) ...)", "()", "((a ... ...) ...)", "()"},
		// Tails.
		{"(a b ...)", "(1 2 3)", "(a . b2)", "(1 . b2)"}, {"(a b ...)", "(1 2 3)", "(b ... . a)", "(2 3 . 1)"}, {"(a b ...)", "(1)", "(b ... . a)", "1"}, {"(a b ...)", "((1 . 2))", "(b ... . a)", "(1 . 2)"}, {"(a . b)", "(1)", "(a . b)", "(1)"}, {"(a . b)", "(1 2 3)", "(a a . b)", "(1 1 2 3)"}, {"(a . b)", "(1 2 . 3)", "(a . b)", "(1 2 . 3)"}, {"(a . b)", "(1 2 . 3)", "((a . b) b . b)", "((1 2 . 3) (2 . 3) 2 . 3)"}, {"(a ...)", "()", "(a ... . #v)", "#v"}, {"(a ...)", "()", "(a ... . x)", "x"}, {"(a ...)", "()", "((a ... . x) a ... . 5)", "(x . 5)"}, {"(a ... . b)", "(1 . 2)", "(b a ... . b)", "(2 1 . 2)"},
		// Nothing for a variable, and what has none.
		{"_", "1", "()", "()"}, {"_", "1", "(x (y . z) 5)", "(x (y . z) 5)"}, {"_", "1", "#v", "#v"}, {"_", "1", "(_ . _)", "(_ . _)"}, {"()", "()", "(a b)", "(a b)"},
	} {
		checkFilled(t, read(t, x.template), bindsOf(t, x.p, x.d), read(t, x.want))
	}
}

func TestFillDots(t *testing.T) {
	for _, x := range []struct{ template, want string }{
		{"(... ...)", "..."}, {"(... x)", "x"}, {"(... a)", "1"}, {"(... 5)", "5"}, {"(... (a ...))", "(1 ...)"}, {"(... (... ...))", "(... ...)"}, {"(... (... a))", "(... 1)"}, {"(... (...))", "(...)"}, {"(... (... a ... ... . ...))", "(... 1 ... ... . ...)"}, {"(... (a . ...))", "(1 . ...)"}, {"(... (x (y ... (... (... z)))))", "(x (y ... (... (... z))))"}, {"(... ())", "()"},
		{"((... ...))", "(...)"}, {"(x (... ...) y)", "(x ... y)"}, {"(x (... ...) (... ...))", "(x ... ...)"}, {"((... (a ...)) b ...)", "((1 ...) 2 3)"}, {"((... b) ...)", "(2 3)"}, {"((... (b ...)) ...)", "((2 ...) (3 ...))"}, {"((... (a b)) ... b ...)", "((1 2) (1 3) 2 3)"}, {"(((... ...) b) ...)", "((... 2) (... 3))"}, {"((... c) ... ...)", "(4 5 6)"}, {"(x . y)", "(x . y)"},
	} {
		binds := append(bindsOf(t, "(a b ...)", "(1 2 3)"), bindsOf(t, "((c ...) ...)", "((4 5) (6))")...)
		checkFilled(t, read(t, x.template), binds, read(t, x.want))
	}
	// Only where it is a symbol as others ... may stand for something.
	binds := []Bind{{"...", leaf(num(7))}, {"a", leaves(num(1), num(2))}}
	checkFilled(t, read(t, "(a ... (... ...) (... (a2 ...)) (... 5))"), binds, read(t, "(1 2 7 (a2 7) 5)"))
	checkNotFilled(t, sym("..."), binds, api.ErrSyntax)
	checkNotFilled(t, read(t, "(x . ...)"), binds, api.ErrSyntax)
	checkNotFilled(t, read(t, "(...)"), binds, api.ErrSyntax)
	checkNotFilled(t, read(t, "((... ...) ...)"), binds, api.ErrSyntax)
	binds = []Bind{{"...", leaves(num(7), num(8))}, {"a", leaves(num(1), num(2))}, {"b", leaves(num(3))}}
	checkFilled(t, read(t, "((... ...) ... ((... ...) a) ...)"), binds, read(t, "(7 8 (7 1) (8 2))"))
	checkFilled(t, read(t, "((... (... x)) ...)"), binds, read(t, "((7 x) (8 x))"))
	checkNotFilled(t, read(t, "((... (... b)) ...)"), binds, api.ErrSyntax)
}

func TestFillWrong(t *testing.T) {
	for _, s := range []string{
		// ... first, as a Tail, alone.
		"...", "(...)", "(... ... ...)", "(... a b)", "(... a ...)", "(... . a)", "(... a . b)", "(... ... . a)", "(a . ...)", "(b ... . ...)", "((...))", "(x (... a b) y)", "(x (a . ...))", "((... . x) b ...)", "(((...) b) ...)", "((... x) . ...)", "(... x y)", "(x y . ...)",
		// None that is Many: no variable, one that is not Many, more ... than it has.
		"(x ...)", "(1 ...)", "(() ...)", "(a ...)", "((a x) ...)", "(a b ... ...)", "((x a) b ... x ...)", "((b ... ...))", "(c ... ... ...)", "((b ...) ...)", "((a b ...) ...)", "((... ...) ...)", "((... a) ...)", "(((c ...) ...) ...)", "((b (a ...)) ...)",
		// More than its ... .
		"b", "(b)", "(b b ...)", "(c ...)", "((c b2) ...)", "(c)", "((c ...))", "((a c) ...)", "(... (b ...))",
		// As many of each other number.
		"((b c2) ...)", "((b e) ...)", "((e b) ...)", "((b c) ... ...)", "((a b e) ...)", "((b x e) ...)", "((b . e) ...)", "((b (... e)) ...)", "((b (e ...)) ...)", "((b n) ...)", "((n b) ...)",
	} {
		binds := append(bindsOf(t, "(a b ...)", "(1 2 3)"), bindsOf(t, "((c ...) ...)", "((4 5) (6) (7))")...)
		binds = append(binds, bindsOf(t, "((e ...) (n ...) c2 ...)", "((1) () 2)")...)
		checkNotFilled(t, read(t, s), binds, api.ErrSyntax)
	}
	// As often as the first has Kids: in each round by itself, and in none nothing is met.
	binds := append(bindsOf(t, "((a ...) ...)", "((1 2) (3))"), bindsOf(t, "((b ...) ...)", "((4 5) (6))")...)
	binds = append(binds, bindsOf(t, "((c ...) ...)", "((7) (8))")...)
	binds = append(binds, bindsOf(t, "(n ...)", "()")...)
	checkFilled(t, read(t, "(((a b) ...) ... (a b) ... ...)"), binds, read(t, "(((1 4) (2 5)) ((3 6)) (1 4) (2 5) (3 6))"))
	checkFilled(t, read(t, "(((a ...) (c ...)) ...)"), binds, read(t, "(((1 2) (7)) ((3) (8)))"))
	checkNotFilled(t, read(t, "(((a c) ...) ...)"), binds, api.ErrSyntax)
	checkNotFilled(t, read(t, "((a c) ... ...)"), binds, api.ErrSyntax)
	for _, s := range []string{"((n (... x y)) ...)", "((n (x . ...)) ...)", "((n (x ...)) ...)", "(n ... ... ...)", "(((n) ...) ...)"} {
		checkFilled(t, read(t, s), binds, read(t, "()"))
	}
}

func TestFillNotGood(t *testing.T) {
	for i, d := range bads() {
		for _, binds := range [][]Bind{nil, {{"a", leaf(num(1))}}, {{"a", many()}}} {
			if got, err := Fill(d, binds); err != api.ErrLong || !exactly(got, api.Datum{}) {
				t.Errorf("Fill of bad template %d: %v", i, err)
			}
		}
	}
	// Ahead of all else that is wrong.
	checkNotFilled(t, list(sym("..."), num(0)), nil, api.ErrLong)
}

// What stands for a variable stays as it is, whatever that is; but a list with a Tail is Norm of it.
func TestFillWithDataNotGood(t *testing.T) {
	for _, d := range []api.Datum{num(1, 0), {Kind: 9, S: "x", B: true}, {Kind: api.Num, I: api.Int{Neg: true}, Items: []api.Datum{num(0)}}, dotted(list(), num(0)), sym("")} {
		binds := []Bind{{"a", leaf(d)}, {"b", leaves(d, d)}}
		checkFilled(t, sym("a"), binds, d)
		checkFilled(t, read(t, "(x a (b ...))"), binds, list(sym("x"), d, list(d, d)))
	}
	binds := []Bind{{"a", leaf(num(1, 0))}}
	checkFilled(t, read(t, "(a . x)"), binds, read(t, "(1 . x)"))
	checkFilled(t, read(t, "(x . a)"), binds, read(t, "(x . 1)"))
	checkFilled(t, read(t, "(a (x . a))"), binds, list(num(1, 0), read(t, "(x . 1)")))
}
