package match

import (
	"slices"
	"testing"

	"pavane/api"
)

const spoilt = 0xdecade

// roomy is a copy of d with marks in the room behind all its lists.
func roomy(d api.Datum) api.Datum {
	d.I.L = behind(d.I.L, spoilt)
	for _, l := range []*[]api.Datum{&d.Items, &d.Tail} {
		var made []api.Datum
		for _, x := range *l {
			made = append(made, roomy(x))
		}
		*l = behind(made, sym("mark"))
	}
	return d
}

// behind is a copy of l with room behind its end, in which marks stand.
func behind[T any](l []T, mark T) []T {
	out := append(slices.Clone(l), mark, mark, mark)
	return out[:len(l):len(out)]
}

// isMarked: the marks behind all lists of d are still there.
func isMarked(d api.Datum) bool {
	for _, limb := range d.I.L[len(d.I.L):cap(d.I.L)] {
		if limb != spoilt {
			return false
		}
	}
	for _, l := range [][]api.Datum{d.Items, d.Tail} {
		for _, x := range l {
			if !isMarked(x) {
				return false
			}
		}
		for _, x := range l[len(l):cap(l)] {
			if !exactly(x, sym("mark")) {
				return false
			}
		}
	}
	return true
}

func roomyTree(t Tree) Tree {
	t.D = roomy(t.D)
	var made []Tree
	for _, kid := range t.Kids {
		made = append(made, roomyTree(kid))
	}
	t.Kids = behind(made, leaf(sym("mark")))
	return t
}

func isMarkedTree(t Tree) bool {
	for _, kid := range t.Kids {
		if !isMarkedTree(kid) {
			return false
		}
	}
	for _, kid := range t.Kids[len(t.Kids):cap(t.Kids)] {
		if kid.Many || len(kid.Kids) > 0 || !exactly(kid.D, sym("mark")) {
			return false
		}
	}
	return isMarked(t.D)
}

func roomyBinds(l []Bind) []Bind {
	var out []Bind
	for _, b := range l {
		out = append(out, Bind{b.Name, roomyTree(b.T)})
	}
	return behind(out, Bind{Name: "mark"})
}

func isMarkedBinds(l []Bind) bool {
	for _, b := range l {
		if !isMarkedTree(b.T) {
			return false
		}
	}
	for _, b := range l[len(l):cap(l)] {
		if b.Name != "mark" || b.T.Many || !exactly(b.T.D, api.Datum{}) {
			return false
		}
	}
	return true
}

// memory counts the places that lists stand in, the room behind them too.
type memory struct {
	data  map[*api.Datum]int
	limbs map[*uint32]int
	trees map[*Tree]int
}

func newMemory() memory {
	return memory{map[*api.Datum]int{}, map[*uint32]int{}, map[*Tree]int{}}
}

func (m memory) datum(d api.Datum) {
	limbs := d.I.L[:cap(d.I.L)]
	for i := range limbs {
		m.limbs[&limbs[i]]++
	}
	for _, l := range [][]api.Datum{d.Items, d.Tail} {
		for _, x := range l {
			m.datum(x)
		}
		l = l[:cap(l)]
		for i := range l {
			m.data[&l[i]]++
		}
	}
}

func (m memory) tree(t Tree) {
	m.datum(t.D)
	for _, kid := range t.Kids {
		m.tree(kid)
	}
	kids := t.Kids[:cap(t.Kids)]
	for i := range kids {
		m.trees[&kids[i]]++
	}
}

func (m memory) binds(l []Bind) {
	for _, b := range l {
		m.tree(b.T)
	}
}

// isShared: two lists stand in one place.
func (m memory) isShared() bool {
	for _, n := range m.data {
		if n > 1 {
			return true
		}
	}
	for _, n := range m.limbs {
		if n > 1 {
			return true
		}
	}
	for _, n := range m.trees {
		if n > 1 {
			return true
		}
	}
	return false
}

// matches are patterns and data that match them.
func matches(t *testing.T) [][2]api.Datum {
	var out [][2]api.Datum
	for _, x := range [][2]string{
		{"a", "(1 (2 . 3) -4)"}, {"(a . b)", "(1 2 (3) . 4)"}, {"(a . b)", "((1) (2 3))"}, {"(a b ... c)", "(1 2 3 (4) 5)"}, {"((a b ...) ... . c)", "((1 2 3) (4) (5 (6)) . 7)"}, {"((a ...) ... b . c)", "((1 2) () (3) ((4) . 5))"}, {"((5 a) (b ... 6) . c)", "((5 x) (1 (2 3) 6) (7) (8))"}, {"(a ... . b)", "((1 . 2) 3)"},
	} {
		out = append(out, [2]api.Datum{read(t, x[0]), read(t, x[1])})
	}
	return out
}

func TestPatternsAreLeft(t *testing.T) {
	for _, s := range []string{"a", "(a b ... c)", "((a . b) ... . c)", "(a a)", "(... a)", "((l l) 5 ...)", "(a . ...)"} {
		for _, likes := range []string{"", "l (x y)", "l (x) a () l (y)"} {
			p, l := roomy(read(t, s)), behind(likesOf(t, likes), Like{Name: "mark"})
			for i := range l {
				l[i].All = behind(l[i].All, "mark")
			}
			Check(p, l)
			Names(p, l)
			Depth(p, "a", l)
			Match(p, roomy(read(t, "(1 2 3)")), l)
			if !exactly(p, read(t, s)) || !isMarked(p) {
				t.Errorf("the pattern %s is changed", s)
			}
			for i, like := range likesOf(t, likes) {
				room := l[i].All[:cap(l[i].All)]
				if l[i].Name != like.Name || !slices.Equal(l[i].All, like.All) || room[len(like.All)] != "mark" || l[:cap(l)][len(l)].Name != "mark" {
					t.Errorf("likes %s are changed", likes)
				}
			}
		}
	}
}

func TestMatchMemory(t *testing.T) {
	for i, x := range matches(t) {
		p, d := roomy(x[0]), roomy(x[1])
		got, ok := Match(p, d, nil)
		again, _ := Match(p, d, nil)
		want := shownBinds(again)
		if !ok || !exactly(p, x[0]) || !exactly(d, x[1]) || !isMarked(p) || !isMarked(d) {
			t.Errorf("Match %d changes what it is given, or is none", i)
		}
		m := newMemory()
		m.datum(p)
		m.datum(d)
		m.binds(got)
		m.binds(again)
		if m.isShared() {
			t.Errorf("Match %d: lists share memory", i)
		}
		// What was told is not changed behind it.
		d.Items = append(d.Items[:0], sym("other"))
		p.Items = append(p.Items[:0], sym("other"))
		if shownBinds(got) != want {
			t.Errorf("Match %d: %s, want %s", i, shownBinds(got), want)
		}
	}
}

func TestNamesAreNew(t *testing.T) {
	p := read(t, "(a b (c ...))")
	first := Names(p, nil)
	room := first[:cap(first)]
	for i := range room {
		room[i] = "other"
	}
	if got := Names(p, nil); !slices.Equal(got, []string{"a", "b", "c"}) {
		t.Errorf("Names: %q", got)
	}
}

func TestFillMemory(t *testing.T) {
	number := num(1, 2)
	binds := []Bind{{"a", leaf(list(number, dotted(list(number), number)))}, {"b", leaves(number, list(number), dotted(list(list(number)), sym("x")))}, {"c", many(leaves(number, number), leaves(), leaves(list(list(number))))}, {"a", many()}}
	for _, s := range []string{"a", "(a a)", "((a b) ... b ... . a)", "(c ... ... (c ...) ... 5000000000)", "((b c ...) ... x . 5000000000)", "(... (a ... a . a))", "((a . a) ((b . a) ...) . a)", "(x y (z . 6))", "(b ... . a)", "(a ... )", "(b)", "(a . ...)", "((a b c) ...)", "(a b ... (c ...) ...)"} {
		template, given := roomy(read(t, s)), roomyBinds(binds)
		got, err := Fill(template, given)
		again, _ := Fill(template, given)
		if !exactly(template, read(t, s)) || !isMarked(template) || shownBinds(given) != shownBinds(binds) || !isMarkedBinds(given) {
			t.Errorf("Fill(%s): %v, changes what it is given", s, err)
		}
		m := newMemory()
		m.datum(template)
		m.binds(given)
		m.datum(got)
		m.datum(again)
		if m.isShared() || !exactly(got, again) {
			t.Errorf("Fill(%s): lists share memory", s)
		}
	}
}

// What is handed in twice is apart in what is told.
func TestFillOfShared(t *testing.T) {
	part := list(num(1), list(num(2)))
	kids := []Tree{leaf(part), leaf(part)}
	binds := []Bind{{"a", leaf(part)}, {"b", many(many(kids...), many(kids...))}}
	template := list(sym("a"), list(sym("b"), sym("..."), sym("a")), sym("..."), sym("b"), sym("..."), sym("..."))
	got, err := Fill(template, binds)
	m := newMemory()
	m.datum(got)
	if err != api.OK || m.isShared() {
		t.Errorf("Fill: %v, lists share memory", err)
	}
	// Nor do parts of one datum that was handed in twice in what is matched.
	binds, ok := Match(list(sym("a"), list(sym("b"), sym("c"), sym("...")), sym("...")), list(part, list(part, part), list(part, part, part)), nil)
	m = newMemory()
	m.binds(binds)
	if !ok || m.isShared() {
		t.Errorf("Match: %t, lists share memory", ok)
	}
}

// An answer hangs on its arguments alone.
func TestAskedAgain(t *testing.T) {
	p, likes := read(t, "((l c b a) ... . d)"), likesOf(t, "l (x y)")
	d := read(t, "((x 1 2 3) (y 4 5 6) . 7)")
	template := read(t, "((a b c d) ... d)")
	for range 50 {
		binds, ok := Match(p, d, likes)
		if !ok || shownBinds(binds) != "c=[1 4] b=[2 5] a=[3 6] d=7" {
			t.Fatalf("Match: %s, %t", shownBinds(binds), ok)
		}
		checkFilled(t, template, binds, read(t, "((3 2 1 7) (6 5 4 7) 7)"))
		checkNotFilled(t, read(t, "((a b) ... x ...)"), binds, api.ErrSyntax)
	}
}
