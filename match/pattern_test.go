package match

import (
	"slices"
	"strings"
	"testing"

	"pavane/api"
)

func TestCheck(t *testing.T) {
	for _, x := range []struct{ p, likes string }{
		{"a", ""}, {"_", ""}, {"5", ""}, {"#t", ""}, {`"..."`, ""}, {"#v", ""}, {"()", ""}, {"(a)", ""}, {"(a . b)", ""}, {"(_ _ . _)", ""}, {"(a . #v)", ""},
		{"(a ...)", ""}, {"(_ ...)", ""}, {"(1 ...)", ""}, {"(() ...)", ""}, {"(a ... b)", ""}, {"(a ... . b)", ""}, {"(a b ... c d . e)", ""}, {"(a b ...)", ""},
		{"((a ...) ...)", ""}, {"((a ... b) ... (c ...))", ""}, {"((a ...) (b ...))", ""}, {"(((a ...) ...) ... (b ...) . c)", ""}, {"((a . b) ...)", ""},
		{"(a .. ....)", ""}, {"(a __ |. . .|)", ""}, {`(a "..." "...")`, ""},
		// A literal may be there twice, and what ... is where it is a literal is no mark.
		{"(a a)", "a ()"}, {"(a (a a) . a)", "a (b)"}, {"(a a b)", "b () a ()"}, {"...", "... ()"}, {"(...)", "... ()"}, {"(... ...)", "... (x)"}, {"(a ... ... . ...)", "... ()"}, {"(a . ...)", "... ()"}, {"(_ _)", "_ ()"}, {"_", "_ ()"}, {"(a _ ...)", "_ ()"}, {"(a a)", "b () a () a (c)"},
	} {
		if err := Check(read(t, x.p), likesOf(t, x.likes)); err != api.OK {
			t.Errorf("Check(%s, %s): %v, want ok", x.p, x.likes, err)
		}
	}
}

func TestCheckWrong(t *testing.T) {
	for _, x := range []struct{ p, likes string }{
		// A variable twice: in one list, in others, in a Tail, within ... .
		{"(a a)", ""}, {"(a b a)", ""}, {"(a (a))", ""}, {"((a) b (c a))", ""}, {"(a . a)", ""}, {"((b . a) . a)", ""}, {"((a . b) (c . b))", ""}, {"(a ... a)", ""}, {"((a ...) a)", ""}, {"(a ... . a)", ""}, {"((a a) ...)", ""},
		{"(a a)", "b ()"}, {"(a a)", "b (a)"}, {"(b b a a)", "b ()"},
		// ... first, twice, as a Tail, alone.
		{"(...)", ""}, {"(... a)", ""}, {"(... ...)", ""}, {"(... . a)", ""}, {"((...))", ""}, {"(a (... b))", ""}, {"((... a) ...)", ""}, {"((...) ...)", ""},
		{"(a ... ...)", ""}, {"(a ... b ...)", ""}, {"(a ... b ... . c)", ""}, {"((a ... ...))", ""}, {"(1 ... 2 ...)", ""}, {"(b (a ... c ...) ...)", ""},
		{"(a . ...)", ""}, {"(a ... . ...)", ""}, {"((a . ...))", ""}, {"((a . ...) . b)", ""}, {"(a (b . ...) ...)", ""},
		{"...", ""}, {"...", "_ ()"}, {"...", "a (...)"}, {"(...)", "a (...)"}, {"(_ ... ...)", "_ ()"},
	} {
		if err := Check(read(t, x.p), likesOf(t, x.likes)); err != api.ErrSyntax {
			t.Errorf("Check(%s, %s): %v, want syntax", x.p, x.likes, err)
		}
	}
}

func TestNames(t *testing.T) {
	for _, x := range []struct{ p, likes, want string }{
		{"a", "", "a"}, {"_", "", ""}, {"...", "", ""}, {"5", "", ""}, {`"a"`, "", ""}, {"#v", "", ""}, {"()", "", ""}, {"(b a)", "", "b a"}, {"(b (c d) . a)", "", "b c d a"}, {"((c ...) ... b . a)", "", "c b a"}, {"(_ a ... _)", "", "a"}, {"((1 . z) y)", "", "z y"},
		// Of what Check refuses, too: of each once, where it is first.
		{"(a a)", "", "a"}, {"(b a b (c a) . b)", "", "b a c"}, {"(... a ... ... . ...)", "", "a"}, {"(a . ...)", "", "a"}, {"(... ...)", "", ""},
		// Literals are none.
		{"(a b c)", "b ()", "a c"}, {"(a b c)", "d (a)", "a b c"}, {"(a b)", "a () b ()", ""}, {"(... a _)", "... ()", "a"}, {"(_ a ...)", "_ ()", "a"}, {"a", "a ()", ""}, {"(a ...)", "... ()", "a"},
	} {
		got := Names(read(t, x.p), likesOf(t, x.likes))
		if strings.Join(got, " ") != x.want {
			t.Errorf("Names(%s, %s): %q, want %s", x.p, x.likes, got, x.want)
		}
	}
}

func TestDepth(t *testing.T) {
	for _, x := range []struct {
		p, name, likes string
		want           int
	}{
		{"a", "a", "", 0}, {"a", "b", "", -1}, {"(a)", "a", "", 0}, {"(a ...)", "a", "", 1}, {"(b a ... c)", "a", "", 1}, {"(b a ... c)", "b", "", 0}, {"(b a ... c)", "c", "", 0}, {"(b a ... . c)", "c", "", 0},
		{"((a ...) ...)", "a", "", 2}, {"(((a ...) b) ...)", "b", "", 1}, {"(((a ...) b) ...)", "a", "", 2}, {"((a) ...)", "a", "", 1}, {"((b . a) ...)", "a", "", 1}, {"((b ... . a) ...)", "a", "", 1}, {"((b ... . a) ...)", "b", "", 2}, {"((((a ...) ...) ...) ...)", "a", "", 4}, {"(((a) ...) . b)", "a", "", 1}, {"(b ... (a))", "a", "", 0},
		// Its first place counts.
		{"(a (a ...))", "a", "", 0}, {"((a ...) a)", "a", "", 1}, {"(a ... . a)", "a", "", 1}, {"((b a) (a ...))", "a", "", 0}, {"(((a ...) ...) (a ...) a)", "a", "", 2},
		// Of what Check refuses, an item counts once, however many ... are behind it; a Tail is no item.
		{"(a ... ...)", "a", "", 1}, {"((a ...) ... ...)", "a", "", 2}, {"(... a)", "a", "", 0}, {"(... a ...)", "a", "", 1}, {"(a . ...)", "a", "", 0}, {"(a ... b ...)", "b", "", 1},
		// No variables.
		{"_", "_", "", -1}, {"(_ ...)", "_", "", -1}, {"(a ...)", "...", "", -1}, {"...", "...", "", -1}, {"5", "5", "", -1}, {`"a"`, "a", "", -1}, {"()", "a", "", -1}, {"()", "", "", -1}, {"#v", "", "", -1}, {"(a ...)", "A", "", -1},
		{"(a ...)", "a", "a ()", -1}, {"(a ...)", "a", "b (a)", 1}, {"(a ...)", "a", "... ()", 0}, {"(a ...)", "...", "... ()", -1}, {"(_ ...)", "_", "_ ()", -1}, {"((a ...) ...)", "a", "... (b)", 0},
	} {
		if got := Depth(read(t, x.p), x.name, likesOf(t, x.likes)); got != x.want {
			t.Errorf("Depth(%s, %s, %s): %d, want %d", x.p, x.name, x.likes, got, x.want)
		}
	}
}

func TestPatternsNotGood(t *testing.T) {
	for i, p := range bads() {
		for _, likes := range [][]Like{nil, {{"a", nil}, {"...", nil}}} {
			if err := Check(p, likes); err != api.ErrLong {
				t.Errorf("Check of bad pattern %d: %v, want long", i, err)
			}
			if got := Names(p, likes); len(got) != 0 {
				t.Errorf("Names of bad pattern %d: %q", i, got)
			}
			if got := Depth(p, "a", likes); got != -1 {
				t.Errorf("Depth of bad pattern %d: %d", i, got)
			}
			if got, ok := Match(p, sym("a"), likes); ok || len(got) != 0 {
				t.Errorf("Match of bad pattern %d: %s, %t", i, shownBinds(got), ok)
			}
			if got, ok := Match(p, p, likes); ok || len(got) != 0 {
				t.Errorf("Match of bad pattern %d and itself: %s, %t", i, shownBinds(got), ok)
			}
		}
	}
	// Not being Good is told ahead of what else is wrong.
	for _, p := range []api.Datum{list(sym("..."), num(0)), list(sym("a"), sym("a"), num(0)), {Kind: api.Sym, S: "...", B: true}} {
		if err := Check(p, nil); err != api.ErrLong {
			t.Errorf("Check: %v, want long", err)
		}
	}
}

func TestPatternsAtTheirBounds(t *testing.T) {
	wide := flat(mostItems)
	for i := range wide.Items {
		wide.Items[i] = sym("v" + strings.Repeat("x", i%60) + string(rune('A'+i/60%64)) + string(rune('A'+i/3840)))
	}
	if err := Check(wide, nil); err != api.OK {
		t.Errorf("Check of %d data: %v", mostItems, err)
	}
	if got := Names(wide, nil); len(got) != mostItems-1 || got[0] != wide.Items[0].S || got[mostItems-2] != wide.Items[mostItems-2].S {
		t.Errorf("Names of %d data: %d", mostItems, len(got))
	}
	wide.Items[mostItems-2] = wide.Items[0]
	if err := Check(wide, nil); err != api.ErrSyntax {
		t.Errorf("Check of %d data, one twice: %v", mostItems, err)
	}
	if got := Names(wide, nil); len(got) != mostItems-2 {
		t.Errorf("Names of %d data, one twice: %d", mostItems, len(got))
	}
	deep := sym("a")
	for range deepest - 1 {
		deep = list(deep, sym("..."))
	}
	if err, depth := Check(deep, nil), Depth(deep, "a", nil); err != api.OK || depth != deepest-1 || !slices.Equal(Names(deep, nil), []string{"a"}) {
		t.Errorf("of the deepest pattern: %v, %d", err, depth)
	}
}
