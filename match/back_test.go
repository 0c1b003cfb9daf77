package match

import (
	"strconv"
	"testing"

	"pavane/api"
	"pavane/datum"
	"pavane/write"
)

// maker makes patterns and data that match them, always the same ones.
type maker struct {
	seed  uint32
	names int
}

func (m *maker) next(n int) int {
	m.seed = m.seed*1664525 + 1013904223
	return int(m.seed>>16) % n
}

// datum is any datum.
func (m *maker) datum(deep int) api.Datum {
	switch m.next(7) {
	case 0, 1:
		if deep == 0 {
			return list()
		}
		out := list()
		for range m.next(4) {
			out.Items = append(out.Items, m.datum(deep-1))
		}
		if len(out.Items) > 0 && m.next(3) == 0 {
			out = dotted(out, sym("t"))
		}
		return out
	case 2:
		return sym("s" + strconv.Itoa(m.next(9)))
	case 3:
		return sym("...")
	case 4:
		return api.Datum{Kind: api.Str, S: "a"}
	}
	return num(uint32(m.next(9)) + 1)
}

func (m *maker) variable() api.Datum {
	m.names++
	return sym("v" + strconv.Itoa(m.names))
}

// pattern is one without literals and _, in which no variable is twice.
func (m *maker) pattern(deep int) api.Datum {
	kind := m.next(6)
	switch {
	case kind == 0:
		return num(uint32(m.next(9)) + 1)
	case kind < 3 || deep == 0:
		return m.variable()
	}
	out := list()
	mark := m.next(8)
	for i := range m.next(5) {
		out.Items = append(out.Items, m.pattern(deep-1))
		if i == mark {
			out.Items = append(out.Items, sym("..."))
		}
	}
	if len(out.Items) > 0 && m.next(3) == 0 {
		out = dotted(out, m.variable())
	}
	return out
}

// matching is a datum that matches p, and the trees of its variables.
func (m *maker) matching(p api.Datum, trees map[string]Tree) api.Datum {
	switch p.Kind {
	case api.Sym:
		trees[p.S] = leaf(m.datum(2))
		return trees[p.S].D
	case api.Num:
		return p
	}
	out := list()
	hasMark := false
	for i, item := range p.Items {
		switch {
		case isDotsSymbol(item):
		case i+1 < len(p.Items) && isDotsSymbol(p.Items[i+1]):
			hasMark = true
			out.Items = append(out.Items, m.matchingMany(item, trees)...)
		default:
			out.Items = append(out.Items, m.matching(item, trees))
		}
	}
	if len(p.Tail) == 0 {
		return out
	}
	left := m.datum(2)
	// A list whose ... takes all items has d's Tail behind it, and what has no items is no list with a Tail.
	if hasMark && (left.Kind == api.List || len(out.Items) == 0) {
		left = list()
	}
	trees[p.Tail[0].S] = leaf(left)
	return datum.Norm(dotted(out, left))
}

func (m *maker) matchingMany(item api.Datum, trees map[string]Tree) []api.Datum {
	kids := map[string][]Tree{}
	for x := range datum.Walk(item) {
		if x.Kind == api.Sym && !isDotsSymbol(x) {
			kids[x.S] = nil
		}
	}
	var out []api.Datum
	for range m.next(4) {
		round := map[string]Tree{}
		out = append(out, m.matching(item, round))
		for name, tree := range round {
			kids[name] = append(kids[name], tree)
		}
	}
	for name, l := range kids {
		trees[name] = many(l...)
	}
	return out
}

// Match tells of a datum what it was made of, and Fill makes it again.
func TestFilledIsMatched(t *testing.T) {
	m := maker{seed: 1}
	most := 0
	for range 20000 {
		m.names = 0
		p := m.pattern(4)
		trees := map[string]Tree{}
		d := m.matching(p, trees)
		if datum.Size(d) > 1000 {
			continue
		}
		most = max(most, datum.Size(d))
		binds, ok := Match(p, d, nil)
		if !ok || len(binds) != len(trees) {
			t.Fatalf("Match(%s, %s): %t", write.Write(p), write.Write(d), ok)
		}
		names := Names(p, nil)
		for i, b := range binds {
			if b.Name != names[i] || shownTree(b.T) != shownTree(trees[b.Name]) {
				t.Fatalf("Match(%s, %s): %s, want %s of %s", write.Write(p), write.Write(d), shownBinds(binds), shownTree(trees[b.Name]), b.Name)
			}
			if b.T.Many != (Depth(p, b.Name, nil) > 0) {
				t.Fatalf("%s: Depth of %s is %d", write.Write(p), b.Name, Depth(p, b.Name, nil))
			}
		}
		if isToldWhereMany(p) {
			checkFilled(t, p, binds, d)
		}
	}
	if most < 100 {
		t.Errorf("the greatest has %d data", most)
	}
}

// scope is what variables stand for in a template that scope.fill fills in another way: by a scope for each round.
type scope map[string]Tree

// fill is false where there is ErrSyntax; a list is told in the one that it stands in.
func (s scope) fill(t api.Datum, plain bool) (api.Datum, bool) {
	if t.Kind == api.Sym {
		tree, ok := s[t.S]
		if !ok {
			tree = leaf(t)
		}
		return tree.D, !tree.Many && (plain || t.S != "...")
	}
	if t.Kind != api.List {
		return t, true
	}
	out := list()
	for i := 0; i < len(t.Items); i++ {
		if !plain && i == 0 && isDotsSymbol(t.Items[0]) {
			if len(t.Items) == 2 && len(t.Tail) == 0 {
				return s.fill(t.Items[1], true)
			}
			return list(), false
		}
		item, marks := t.Items[i], 0
		for ; !plain && i+1 < len(t.Items) && isDotsSymbol(t.Items[i+1]); i++ {
			marks++
		}
		l, ok := s.row(item, marks, plain)
		if !ok {
			return list(), false
		}
		out.Items = append(out.Items, l...)
	}
	if len(t.Tail) == 0 {
		return out, true
	}
	tail, ok := s.fill(t.Tail[0], plain)
	return datum.Norm(dotted(out, tail)), ok
}

func (s scope) row(item api.Datum, marks int, plain bool) ([]api.Datum, bool) {
	if marks == 0 {
		d, ok := s.fill(item, plain)
		return []api.Datum{d}, ok
	}
	rounds, isMany := 0, false
	for x := range datum.Walk(item) {
		if s[x.S].Many && x.Kind == api.Sym {
			if isMany && len(s[x.S].Kids) != rounds {
				return nil, false
			}
			rounds, isMany = len(s[x.S].Kids), true
		}
	}
	var out []api.Datum
	for i := range rounds {
		round := scope{}
		for name, tree := range s {
			round[name] = tree
		}
		for x := range datum.Walk(item) {
			if x.Kind == api.Sym && s[x.S].Many {
				round[x.S] = s[x.S].Kids[i]
			}
		}
		l, ok := round.row(item, marks-1, false)
		if !ok {
			return nil, false
		}
		out = append(out, l...)
	}
	return out, isMany
}

// All short templates are filled in the other way, too.
func TestSweepTemplates(t *testing.T) {
	s := scope{"a": leaf(list(num(1))), "b": leaves(num(2), num(3)), "c": many(leaves(num(4), num(5)), leaves())}
	var binds []Bind
	for _, name := range []string{"a", "b", "c"} {
		binds = append(binds, Bind{name, s[name]})
	}
	filled := 0
	for _, template := range allData(6, sym("a"), sym("b"), sym("c"), sym("..."), sym("x")) {
		want, ok := s.fill(template, false)
		if !ok {
			checkNotFilled(t, template, binds, api.ErrSyntax)
			continue
		}
		filled++
		checkFilled(t, template, binds, want)
	}
	if filled < 1000 {
		t.Errorf("only %d are filled", filled)
	}
}
