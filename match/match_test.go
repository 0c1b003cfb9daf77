package match

import (
	"strings"
	"testing"

	"pavane/api"
)

func checkMatch(t *testing.T, p, d, likes, want string) {
	t.Helper()
	got, ok := Match(read(t, p), read(t, d), likesOf(t, likes))
	if !ok || shownBinds(got) != want {
		t.Errorf("Match(%s, %s, %s): %s, %t, want %s", p, d, likes, shownBinds(got), ok, want)
	}
}

func checkNoMatch(t *testing.T, p, d, likes string) {
	t.Helper()
	if got, ok := Match(read(t, p), read(t, d), likesOf(t, likes)); ok || len(got) != 0 {
		t.Errorf("Match(%s, %s, %s): %s, %t, want none", p, d, likes, shownBinds(got), ok)
	}
}

// datums are one of each kind, and more of those with parts.
var datums = []string{"1", "-1", "0", "100000000000000000000", "#t", "#f", "x", "...", "_", "a", `""`, `"a"`, `"1"`, "#v", "()", "(1)", "(a b)", "(a . b)", "((1) . #v)", "(a ...)", "(...)"}

func TestMatchAtoms(t *testing.T) {
	for _, d := range datums {
		checkMatch(t, "a", d, "", "a="+d)
		checkMatch(t, "_", d, "", "")
		checkMatch(t, "(_ a)", "(1 "+d+")", "", "a="+d)
		for _, p := range []string{"1", "-1", "0", "100000000000000000000", "#t", "#f", `""`, `"a"`, `"1"`, "#v"} {
			if p == d {
				checkMatch(t, p, d, "", "")
				checkMatch(t, "("+p+" a)", "("+d+" 5)", "", "a=5")
			} else {
				checkNoMatch(t, p, d, "")
				checkNoMatch(t, "(a "+p+")", "(5 "+d+")", "")
			}
		}
	}
}

func TestMatchLiterals(t *testing.T) {
	for _, d := range datums {
		checkNoMatch(t, "a", d, "a ()")
		checkNoMatch(t, "a", d, "a (b c)")
		if d == "a" || d == "x" {
			checkMatch(t, "b", d, "b (x a)", "")
			checkMatch(t, "(b a)", "("+d+" 1)", "b (x a)", "a=1")
		} else {
			checkNoMatch(t, "b", d, "b (x a)")
			checkNoMatch(t, "(b a)", "("+d+" 1)", "b (x a)")
		}
	}
	// A literal is not like itself, if it is in no All.
	checkNoMatch(t, "a", "a", "a (b)")
	checkMatch(t, "a", "a", "a (b a)", "")
	checkMatch(t, "a", "b", "a (b a)", "")
	checkMatch(t, "a", "b", "b (a)", "a=b")
	// Of two likes of one Name the first counts, of two literals each its own.
	checkNoMatch(t, "a", "c", "a (b) a (c)")
	checkMatch(t, "a", "b", "a (b) a (c)", "")
	checkNoMatch(t, "a", "c", "a () a (c)")
	checkMatch(t, "(a b)", "(x y)", "b (y) a (x)", "")
	checkNoMatch(t, "(a b)", "(y x)", "b (y) a (x)")
	// A literal may be there often, and as a Tail, and with ... behind it.
	checkMatch(t, "(a a (a) . a)", "(x y (x) . y)", "a (x y)", "")
	checkNoMatch(t, "(a a (a) . a)", "(x y (z) . y)", "a (x y)")
	checkNoMatch(t, "(a . a)", "(x y)", "a (x y)")
	checkMatch(t, "(a ... b)", "(x y x 1)", "a (x y)", "b=1")
	checkNoMatch(t, "(a ... b)", "(x 1 x 1)", "a (x y)")
	// Strings and others are never like it.
	checkNoMatch(t, "a", `"x"`, "a (x)")
	checkNoMatch(t, "(a)", "((x))", "a (x)")
}

func TestMarksAsLiterals(t *testing.T) {
	checkMatch(t, "...", "...", "... (...)", "")
	checkNoMatch(t, "...", "x", "... (...)")
	checkMatch(t, "...", "x", "... (x)", "")
	checkNoMatch(t, "...", "...", "... (x)")
	checkMatch(t, "(a ...)", "(1 ...)", "... (...)", "a=1")
	checkNoMatch(t, "(a ...)", "(1)", "... (...)")
	checkNoMatch(t, "(a ...)", "(1 2 3)", "... (...)")
	checkNoMatch(t, "(a ...)", "(1 2)", "... (...)")
	checkMatch(t, "(... a ... . ...)", "(x 1 ... . x)", "... (... x)", "a=1")
	checkMatch(t, "(a ... b ...)", "(1 x 2 x)", "... (x)", "a=1 b=2")
	checkMatch(t, "_", "_", "_ (_)", "")
	checkNoMatch(t, "_", "x", "_ (_)")
	checkMatch(t, "(_ a)", "(x 1)", "_ (x)", "a=1")
	checkNoMatch(t, "(_ a)", "(1 1)", "_ (x)")
	checkMatch(t, "(_ ... a)", "(x x 1)", "_ (x)", "a=1")
	checkNoMatch(t, "(_ ... a)", "(x y 1)", "_ (x)")
}

func TestMatchLists(t *testing.T) {
	for _, x := range []struct{ p, d, want string }{
		{"()", "()", ""}, {"(a)", "(1)", "a=1"}, {"(a b)", "(1 2)", "a=1 b=2"}, {"(b a)", "(1 2)", "b=1 a=2"}, {"(a (b (c)) ())", "(1 (2 (3)) ())", "a=1 b=2 c=3"}, {"((a . b))", "((1 2))", "a=1 b=(2)"}, {"(1 a \"s\" #t)", "(1 2 \"s\" #t)", "a=2"}, {"(_ a _)", "(1 2 3)", "a=2"}, {"(#v a)", "(#v #v)", "a=#v"},
		// A Tail: what is left, its Tail, the empty list.
		{"(a . b)", "(1)", "a=1 b=()"}, {"(a . b)", "(1 . 2)", "a=1 b=2"}, {"(a . b)", "(1 2 3)", "a=1 b=(2 3)"}, {"(a . b)", "(1 2 . 3)", "a=1 b=(2 . 3)"}, {"(a b . c)", "(1 2)", "a=1 b=2 c=()"}, {"(a b . c)", "(1 2 (3) . 4)", "a=1 b=2 c=((3) . 4)"}, {"(a . b)", "((1 . 2) . #v)", "a=(1 . 2) b=#v"},
		{"(a . _)", "(1 2 3)", "a=1"}, {"(a . _)", "(1 . 3)", "a=1"}, {"(a . 5)", "(1 . 5)", "a=1"}, {"(a . #v)", "(1 . #v)", "a=1"}, {"(a . \"x\")", "(1 . \"x\")", "a=1"}, {"((a . b) . c)", "((1 2) 3)", "a=1 b=(2) c=(3)"},
	} {
		checkMatch(t, x.p, x.d, "", x.want)
	}
	for _, x := range []struct{ p, d string }{
		{"()", "(1)"}, {"()", "1"}, {"()", "#v"}, {"()", "x"}, {"()", `""`}, {"()", "#f"}, {"(a)", "()"}, {"(a)", "(1 2)"}, {"(a)", "1"}, {"(a b)", "(1)"}, {"(a b)", "(1 2 3)"}, {"(a 1)", "(1 2)"}, {"((a) b)", "(1 2)"}, {"((a) b)", "((1))"},
		// A list without a Tail against one with a Tail, and the other way round.
		{"(a)", "(1 . 2)"}, {"(a b)", "(1 . 2)"}, {"(a b)", "(1 2 . 3)"}, {"(a b . c)", "(1 . 2)"}, {"(a b . c)", "(1)"}, {"(a . b)", "()"}, {"(a . b)", "1"}, {"(a . b)", "x"},
		{"(a . 5)", "(1 5)"}, {"(a . 5)", "(1)"}, {"(a . 5)", "(1 . 6)"}, {"(a . 5)", "(1 2 . 5)"}, {"(a . #v)", "(1)"}, {"(a . \"x\")", "(1 . x)"},
	} {
		checkNoMatch(t, x.p, x.d, "")
	}
	checkMatch(t, "(a . l)", "(1 . x)", "l (x)", "a=1")
	checkNoMatch(t, "(a . l)", "(1 x)", "l (x)")
	checkNoMatch(t, "(a . l)", "(1)", "l (x)")
}

func TestMatchMany(t *testing.T) {
	for _, x := range []struct{ p, d, want string }{
		{"(a ...)", "()", "a=[]"}, {"(a ...)", "(1)", "a=[1]"}, {"(a ...)", "(1 2 3)", "a=[1 2 3]"}, {"(a b ...)", "(1 2 3)", "a=1 b=[2 3]"}, {"(a b ...)", "(1)", "a=1 b=[]"}, {"(_ ...)", "(1 x)", ""}, {"(_ ...)", "()", ""}, {"(1 ...)", "(1 1)", ""}, {"(1 ...)", "()", ""},
		{"(a ... b)", "(1)", "a=[] b=1"}, {"(a ... b)", "(1 2 3)", "a=[1 2] b=3"}, {"(a ... b c)", "(1 2)", "a=[] b=1 c=2"}, {"(a ... b c)", "(1 2 3 4)", "a=[1 2] b=3 c=4"}, {"(a b ... c)", "(1 2)", "a=1 b=[] c=2"}, {"(a b ... c d)", "(1 2 3 4 5)", "a=1 b=[2 3] c=4 d=5"}, {"(1 ... a)", "(1 1 1)", "a=1"},
		// Items of an item, and ... within others.
		{"((a b) ...)", "((1 2) (3 4))", "a=[1 3] b=[2 4]"}, {"((a b) ...)", "()", "a=[] b=[]"}, {"((b a) ... c)", "((1 2) 3)", "b=[1] a=[2] c=3"}, {"((a ...) ...)", "((1 2) () (3))", "a=[[1 2] [] [3]]"}, {"((a ...) ...)", "()", "a=[]"}, {"((a ...) ...)", "(())", "a=[[]]"}, {"((a b ...) ...)", "((1 2 3) (4))", "a=[1 4] b=[[2 3] []]"}, {"((a ... b) ... c)", "((1) (2 3) 4)", "a=[[] [2]] b=[1 3] c=4"}, {"(((a ...) ...) ...)", "(((1) (2 3)) () (()))", "a=[[[1] [2 3]] [] [[]]]"}, {"(((a ...) ... b) ...)", "(((1) 2) (3))", "a=[[[1]] []] b=[2 3]"}, {"((_ a) ...)", "((1 2) (3 4))", "a=[2 4]"}, {"(((a b) ...) ...)", "(((1 2)) () ((3 4) (5 6)))", "a=[[1] [] [3 5]] b=[[2] [] [4 6]]"},
		// With Tails.
		{"(a ... . b)", "(1 2)", "a=[1 2] b=()"}, {"(a ... . b)", "()", "a=[] b=()"}, {"(a ... . b)", "(1 2 . 3)", "a=[1 2] b=3"}, {"(a b ... c . d)", "(1 2 . 3)", "a=1 b=[] c=2 d=3"}, {"(a b ... c . d)", "(1 2 3 4)", "a=1 b=[2 3] c=4 d=()"}, {"(a ... b . c)", "(1 2 3 . #v)", "a=[1 2] b=3 c=#v"}, {"((a . b) ...)", "((1) (2 3) (4 . 5))", "a=[1 2 4] b=[() (3) 5]"}, {"((a ... . b) ...)", "(() (1 . 2))", "a=[[] [1]] b=[() 2]"}, {"(a ... . _)", "(1 . 2)", "a=[1]"}, {"(a ... . 2)", "(1 . 2)", "a=[1]"},
		{"(a ...)", "(... _ a)", "a=[... _ a]"}, {"(a b ...)", "(... ...)", "a=... b=[...]"},
	} {
		checkMatch(t, x.p, x.d, "", x.want)
	}
	for _, x := range []struct{ p, d string }{
		{"(a ...)", "1"}, {"(a ...)", "x"}, {"(a ...)", "#v"}, {"(a ...)", `""`}, {"(a ...)", "(1 . 2)"}, {"(a b ...)", "()"}, {"(a ... b)", "()"}, {"(a ... b c)", "(1)"}, {"(a b ... c)", "(1)"}, {"(1 ...)", "(1 2)"}, {"(1 ...)", "(1 1 #t)"}, {"(a ... 1)", "(1 2)"}, {"(1 a ...)", "(2 1)"}, {"(a ... b 1)", "(1 1 2)"},
		{"((a b) ...)", "((1 2) (3))"}, {"((a b) ...)", "((1 2) 3)"}, {"((a b) ...)", "((1 2) (3 4 5))"}, {"((a ...) ...)", "((1) 2)"}, {"((a b) ... c)", "((1 2) (3) 4)"},
		{"(a ... b)", "(1 . 2)"}, {"(a ... . b)", "1"}, {"(a ... . 2)", "(1 2)"}, {"(a ... . 2)", "(1)"}, {"(a ... b . c)", "()"}, {"(a ... . #v)", "(1)"}, {"(a b ... c . d)", "(1 . 2)"}, {"((a . b) ...)", "(())"},
	} {
		checkNoMatch(t, x.p, x.d, "")
	}
	checkMatch(t, "(a ... . l)", "(1 . x)", "l (x)", "a=[1]")
	checkNoMatch(t, "(a ... . l)", "(1 x)", "l (x)")
	checkMatch(t, "((l a) ... b)", "((x 1) (y 2) 3)", "l (x y)", "a=[1 2] b=3")
	checkNoMatch(t, "((l a) ... b)", "((x 1) (z 2) 3)", "l (x y)")
}

// What Check refuses matches nothing.
func TestMatchOfWrongPatterns(t *testing.T) {
	for _, x := range []struct{ p, d string }{
		{"(a a)", "(1 1)"}, {"(a . a)", "(1 . 1)"}, {"(a (a))", "(1 (1))"}, {"...", "..."}, {"...", "1"}, {"(...)", "()"}, {"(...)", "(...)"}, {"(... a)", "(1)"}, {"(... ...)", "(... ...)"}, {"(a ... ...)", "(1)"}, {"(a ... b ...)", "(1 2)"}, {"(a . ...)", "(1 . ...)"}, {"(a . ...)", "(1)"}, {"(a ... . ...)", "(1)"}, {"((a ... ...) ...)", "()"}, {"((... a) ...)", "()"}, {"(1 (a a) ...)", "(1)"},
	} {
		checkNoMatch(t, x.p, x.d, "")
	}
	checkMatch(t, "(a a)", "(x x)", "a (x)", "")
}

func TestMatchOfDataNotGood(t *testing.T) {
	for i, d := range bads() {
		for _, p := range []string{"a", "_", "(a ...)", "(_ . _)", "()"} {
			if got, ok := Match(read(t, p), d, nil); ok || len(got) != 0 {
				t.Errorf("Match(%s) of bad datum %d: %s, %t", p, i, shownBinds(got), ok)
			}
		}
	}
}

func TestMatchAtItsBounds(t *testing.T) {
	d := flat(mostItems)
	got, ok := Match(read(t, "(a b ... c)"), d, nil)
	if !ok || len(got) != 3 || len(got[1].T.Kids) != mostItems-3 {
		t.Errorf("Match of %d data: %t", mostItems, ok)
	}
	got, ok = Match(read(t, "(a . b)"), d, nil)
	if !ok || len(got) != 2 || !exactly(got[1].T.D, flat(mostItems-1)) {
		t.Errorf("Match of %d data, and a Tail: %t", mostItems, ok)
	}
	deep := chain(deepest-1, num(7))
	if got, ok = Match(sym("a"), deep, nil); !ok || !exactly(got[0].T.D, deep) {
		t.Errorf("Match of a deep datum: %t", ok)
	}
	if got, ok = Match(chain(deepest-1, sym("a")), deep, nil); !ok || shownBinds(got) != "a=7" {
		t.Errorf("Match of deep patterns: %t", ok)
	}
	p := sym("a")
	for range deepest - 1 {
		p = list(p, sym("..."))
	}
	want := "a=" + strings.Repeat("[", deepest-1) + "7" + strings.Repeat("]", deepest-1)
	if got, ok = Match(p, deep, nil); !ok || shownBinds(got) != want {
		t.Errorf("Match of deep ... : %t, %s", ok, shownBinds(got))
	}
	if got, ok = Match(p, list(), nil); !ok || shownBinds(got) != "a=[]" {
		t.Errorf("Match of deep ... and no datum: %t, %s", ok, shownBinds(got))
	}
}

// Where the last datum does not match, what matched ahead of it is not kept: so many trees would not fit.
func TestMatchOfManyVariables(t *testing.T) {
	var names []api.Datum
	for i := range 2400 {
		names = append(names, sym("v"+string(rune(0x100+i))))
	}
	p := list(list(list(names...), sym("...")), sym("..."))
	d := list(make([]api.Datum, 4900)...)
	for i := range d.Items {
		d.Items[i] = list()
	}
	d.Items[4899] = num(1)
	if got, ok := Match(p, d, nil); ok || len(got) != 0 {
		t.Errorf("Match: %d, %t", len(got), ok)
	}
	d.Items = d.Items[:20]
	if got, ok := Match(p, d, nil); !ok || len(got) != 2400 || len(got[2399].T.Kids) != 20 || !got[2399].T.Kids[19].Many {
		t.Errorf("Match: %d, %t", len(got), ok)
	}
}
