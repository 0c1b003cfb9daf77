package match

import (
	"slices"
	"strings"
	"testing"

	"pavane/api"
)

// ones is a Many of n Trees of one datum each.
func ones(n int) Tree { return many(slices.Repeat([]Tree{leaf(num(1))}, n)...) }

func listOfOnes(n int) api.Datum { return flat(n + 1) }

func TestFillMostBegun(t *testing.T) {
	checkFilled(t, flat(mostItems), nil, flat(mostItems))
	most := []Bind{{"a", ones(mostBegun - 1)}}
	more := []Bind{{"a", ones(mostBegun)}}
	checkFilled(t, read(t, "(a ...)"), most, listOfOnes(mostBegun-1))
	checkNotFilled(t, read(t, "(a ...)"), more, api.ErrLong)
	checkNotFilled(t, read(t, "(a ... x)"), most, api.ErrLong)
	checkNotFilled(t, read(t, "(x a ...)"), most, api.ErrLong)
	checkNotFilled(t, read(t, "(a ... . x)"), most, api.ErrLong)
	checkNotFilled(t, read(t, "(a ...)"), []Bind{{"a", ones(100 * mostBegun)}}, api.ErrLong)
	// Each as often as it is begun: a list and what is in it, the list around ... and one more.
	checkFilled(t, read(t, "(x (a) ...)"), []Bind{{"a", ones(mostBegun/2 - 1)}}, list(append([]api.Datum{sym("x")}, slices.Repeat([]api.Datum{list(num(1))}, mostBegun/2-1)...)...))
	checkNotFilled(t, read(t, "((a) ...)"), []Bind{{"a", ones(mostBegun / 2)}}, api.ErrLong)
	checkFilled(t, read(t, "((... a) ... x)"), []Bind{{"a", ones(mostBegun/2 - 1)}}, list(append(slices.Repeat([]api.Datum{num(1)}, mostBegun/2-1), sym("x"))...))
	checkNotFilled(t, read(t, "((... a) ... x y)"), []Bind{{"a", ones(mostBegun/2 - 1)}}, api.ErrLong)
	checkNotFilled(t, read(t, "((... a) ...)"), []Bind{{"a", ones(mostBegun / 2)}}, api.ErrLong)
	// What has none to be filled for is not begun, nor is ... .
	checkFilled(t, read(t, "(n ... (x) a ... n ... ... (n n) ...)"), []Bind{{"a", ones(mostBegun - 3)}, {"n", many()}}, list(append([]api.Datum{list(sym("x"))}, listOfOnes(mostBegun-3).Items...)...))
}

func TestFillWithManyData(t *testing.T) {
	a := func(n int) []Bind { return []Bind{{"a", leaf(flat(n))}} }
	checkFilled(t, sym("a"), a(mostItems), flat(mostItems))
	checkNotFilled(t, sym("a"), a(mostItems+1), api.ErrLong)
	checkFilled(t, read(t, "(a)"), a(mostItems-1), list(flat(mostItems-1)))
	checkNotFilled(t, read(t, "(a)"), a(mostItems), api.ErrLong)
	checkFilled(t, read(t, "(a x)"), a(mostItems-2), list(flat(mostItems-2), sym("x")))
	checkNotFilled(t, read(t, "(a x)"), a(mostItems-1), api.ErrLong)
	checkNotFilled(t, read(t, "(x a)"), a(mostItems-1), api.ErrLong)
	checkFilled(t, read(t, "(a a)"), a(mostItems/2-1), list(flat(mostItems/2-1), flat(mostItems/2-1)))
	checkNotFilled(t, read(t, "(a a)"), a(mostItems/2), api.ErrLong)
	checkNotFilled(t, read(t, "(a ...)"), []Bind{{"a", leaves(flat(mostItems/2), flat(mostItems/2))}}, api.ErrLong)
	// Behind it all, what is filled counts: a list that goes on in a Tail is none by itself.
	checkFilled(t, read(t, "(x . a)"), a(mostItems-1), list(append([]api.Datum{sym("x")}, flat(mostItems-1).Items...)...))
	checkNotFilled(t, read(t, "(x . a)"), a(mostItems), api.ErrLong)
	// Ahead of that, what is counted: the list that stands for a counts one more there.
	checkFilled(t, read(t, "((x . a) y)"), a(mostBegun-4), list(list(append([]api.Datum{sym("x")}, flat(mostBegun-4).Items...)...), sym("y")))
	checkNotFilled(t, read(t, "((x . a) y)"), a(mostBegun-3), api.ErrLong)
}

// What is met first is told.
func TestFillFirstWrong(t *testing.T) {
	binds := []Bind{{"a", ones(mostBegun - 1)}, {"b", ones(mostBegun - 2)}, {"c", ones(mostBegun)}, {"d", leaf(flat(mostBegun + 1))}, {"e", leaf(chain(deepest, sym("x")))}, {"f", leaf(ring(2))}}
	for _, x := range []struct {
		template string
		want     api.Errno
	}{
		{"(a ... (... x y))", api.ErrLong}, {"(b ... (... x y))", api.ErrSyntax}, {"(a ... x ...)", api.ErrSyntax}, {"(c ... x ...)", api.ErrLong}, {"(x ... c ...)", api.ErrSyntax}, {"((... x y) c ...)", api.ErrSyntax}, {"(a ... b)", api.ErrLong}, {"(b ... b)", api.ErrSyntax}, {"(b ... . ...)", api.ErrSyntax}, {"(a ... . ...)", api.ErrLong}, {"(c ... . ...)", api.ErrLong},
		{"((a b) ...)", api.ErrSyntax}, {"((a c) ...)", api.ErrSyntax}, {"((c a) ...)", api.ErrSyntax}, {"(... x c ...)", api.ErrSyntax}, {"(c ... (a b) ...)", api.ErrLong},
		{"(d x)", api.ErrLong}, {"(d)", api.ErrLong}, {"(d (... x y))", api.ErrLong}, {"(d x ...)", api.ErrSyntax}, {"(x ... d)", api.ErrSyntax}, {"(d d)", api.ErrLong}, {"(d . x)", api.ErrLong}, {"(x . d)", api.ErrLong}, {"((x . d) x ...)", api.ErrSyntax},
		{"(e)", api.ErrLong}, {"(e x ...)", api.ErrSyntax}, {"(e (... x y))", api.ErrSyntax}, {"((e) a)", api.ErrSyntax}, {"(e b ... x x)", api.ErrLong},
		{"f", api.ErrLong}, {"(f)", api.ErrLong}, {"(f x)", api.ErrLong}, {"(x . f)", api.ErrLong}, {"(f . x)", api.ErrLong}, {"(f (... x y))", api.ErrLong}, {"(f x ...)", api.ErrSyntax}, {"((x . f) x ...)", api.ErrSyntax}, {"(f ...)", api.ErrSyntax},
	} {
		got, err := Fill(read(t, x.template), binds)
		if err != x.want || !exactly(got, api.Datum{}) {
			t.Errorf("Fill(%s): %v, want %v", x.template, err, x.want)
		}
	}
}

func TestFillDeep(t *testing.T) {
	a := func(d api.Datum) []Bind { return []Bind{{"a", leaf(d)}} }
	checkFilled(t, chain(deepest-1, sym("a")), a(num(1)), chain(deepest-1, num(1)))
	checkFilled(t, chain(deepest-1, sym("a")), a(list()), chain(deepest-1, list()))
	checkNotFilled(t, chain(deepest-1, sym("a")), a(list(num(1))), api.ErrLong)
	checkFilled(t, chain(100, sym("a")), a(chain(deepest-101, sym("x"))), chain(deepest-1, sym("x")))
	checkNotFilled(t, chain(100, sym("a")), a(chain(deepest-100, sym("x"))), api.ErrLong)
	checkFilled(t, sym("a"), a(chain(deepest-1, sym("x"))), chain(deepest-1, sym("x")))
	checkNotFilled(t, sym("a"), a(chain(deepest, sym("x"))), api.ErrLong)
	// A Tail is one deeper than its list, but not if the list goes on in it.
	checkFilled(t, read(t, "(x . a)"), a(chain(deepest-1, num(1))), list(sym("x"), chain(deepest-2, num(1))))
	checkNotFilled(t, read(t, "(x . a)"), a(chain(deepest, num(1))), api.ErrLong)
	// As deep as a template may be, in lists of ... and one more: these are gone in what is filled.
	deep := sym("a")
	for range deepest - 1 {
		deep = list(deep, sym("..."))
	}
	tree := leaf(num(1))
	for range deepest - 1 {
		tree = many(tree)
	}
	checkFilled(t, deep, []Bind{{"a", tree}}, chain(deepest-1, num(1)))
	checkFilled(t, list(sym("..."), chain(deepest-2, sym("a"))), a(chain(1, num(1))), chain(deepest-1, num(1)))
}

// As many ... behind an item as a template may have.
func TestFillManyDots(t *testing.T) {
	marks := mostItems - 2
	template := list(append([]api.Datum{sym("a")}, slices.Repeat([]api.Datum{sym("...")}, marks)...)...)
	tree := leaf(num(7))
	for range marks {
		tree = many(tree)
	}
	checkFilled(t, template, []Bind{{"a", tree}}, list(num(7)))
	checkNotFilled(t, template, []Bind{{"a", many(tree)}}, api.ErrSyntax)
	checkNotFilled(t, template, []Bind{{"a", tree.Kids[0]}}, api.ErrSyntax)
	checkFilled(t, template, []Bind{{"a", many()}}, list())
}

// Trees and data that hold one another, and such as are beyond what may be handed in: every call ends.
func TestFillEnds(t *testing.T) {
	dotted60 := read(t, "(a"+strings.Repeat(" ...", 61)+")")
	kids := make([]Tree, 2)
	kids[0] = Tree{Many: true, Kids: kids}
	kids[1] = kids[0]
	checkNotFilled(t, dotted60, []Bind{{"a", kids[0]}}, api.ErrSyntax)
	tree := many()
	for range 60 {
		tree = many(tree, tree)
	}
	checkNotFilled(t, dotted60, []Bind{{"a", tree}}, api.ErrLong)
	tree = leaf(num(1))
	for range 61 {
		tree = many(tree, tree)
	}
	checkNotFilled(t, dotted60, []Bind{{"a", tree}}, api.ErrLong)
	for i, d := range []api.Datum{ring(1), ring(500), doubled(60), doubled(17), flat(99000), flat(100000), flat(100001), flat(300000), chain(10000, sym("x")), chain(1<<16, sym("x"))} {
		for _, s := range []string{"a", "(a)", "(x a)", "(a x)", "(x . a)", "(a . x)", "((x . a))", "((((x . a))) . a)", "(a b ...)", "(b ... . a)", "(... a)", "((x a) c ...)"} {
			binds := []Bind{{"a", leaf(d)}, {"b", ones(2000)}, {"c", many()}}
			if got, err := Fill(read(t, s), binds); err != api.ErrLong || !exactly(got, api.Datum{}) {
				t.Errorf("Fill(%s) with big datum %d: %v", s, i, err)
			}
		}
	}
	// With very many Kids, of which none has any.
	wide := Tree{Many: true, Kids: slices.Repeat([]Tree{many()}, 1000000)}
	checkFilled(t, read(t, "(a ... ... x a ... ...)"), []Bind{{"a", wide}}, list(sym("x")))
}
