package datum

import (
	"slices"
	"testing"

	"pavane/api"
)

// names are the symbols that Walk tells, other data by their Kind in digits.
func names(d api.Datum) []string {
	var out []string
	for x := range Walk(d) {
		switch x.Kind {
		case api.Sym:
			out = append(out, x.S)
		default:
			out = append(out, string(rune('0'+x.Kind)))
		}
	}
	return out
}

func TestWalkOrder(t *testing.T) {
	a, b, c, e := sym("a"), sym("b"), sym("c"), sym("e")
	cases := []struct {
		d    api.Datum
		want []string
	}{
		{api.Datum{}, []string{"0"}},
		{a, []string{"a"}},
		{list(), []string{"5"}},
		{list(a, b), []string{"5", "a", "b"}},
		{list(list(a, b), c), []string{"5", "5", "a", "b", "c"}},
		{dotted(list(a, list(b)), c), []string{"5", "a", "5", "b", "c"}},
		{dotted(list(a), list(b), c, list(e)), []string{"5", "a", "5", "b", "c", "5", "e"}},
		{dotted(list(), a), []string{"5", "a"}},
		{every(api.Num), []string{"1", "i", "1", "t", "u"}},
		{list(every(api.Sym), a), []string{"5", "s", "i", "1", "t", "u", "a"}},
		{every(8), []string{"8", "i", "1", "t", "u"}},
	}
	for i, x := range cases {
		if got := names(x.d); !slices.Equal(got, x.want) {
			t.Errorf("case %d: %v, want %v", i, got, x.want)
		}
	}
}

// inOrder is what Walk tells, by another way.
func inOrder(d api.Datum) []api.Datum {
	out := []api.Datum{d}
	for _, x := range slices.Concat(d.Items, d.Tail) {
		out = append(out, inOrder(x)...)
	}
	return out
}

func TestWalkTells(t *testing.T) {
	for i, d := range samples() {
		got, want := slices.Collect(Walk(d)), inOrder(d)
		if !slices.EqualFunc(got, want, exactly) || len(got) != Size(d) {
			t.Errorf("datum %d: Walk tells %d data, want %d", i, len(got), len(want))
		}
	}
}

func TestWalkBounds(t *testing.T) {
	for i, d := range bigs() {
		for x := range Walk(d) {
			t.Fatalf("Walk of big datum %d tells one of Kind %d", i, x.Kind)
		}
	}
	for _, d := range []api.Datum{flat(mostLooked), chain(1000, sym("x"))} {
		count := 0
		for range Walk(d) {
			count++
		}
		if count != Size(d) {
			t.Errorf("Walk tells %d data of %d", count, Size(d))
		}
	}
	for x := range Walk(chain(deepestLooked, sym("x"))) {
		if Depth(x) != deepestLooked {
			t.Errorf("Walk of the deepest: %d", Depth(x))
		}
		break
	}
}

func TestWalkIsLeft(t *testing.T) {
	d := dotted(list(sym("a"), list(sym("b"), sym("c")), sym("e")), sym("f"))
	walk := Walk(d)
	for stop := 1; stop <= Size(d); stop++ {
		count := 0
		walk(func(api.Datum) bool {
			count++
			return count < stop
		})
		if count != stop {
			t.Errorf("left at %d, told %d", stop, count)
		}
	}
	if got := slices.Collect(walk); !slices.EqualFunc(got, inOrder(d), exactly) {
		t.Errorf("gone over again it tells %v", got)
	}
}

func TestWalkNests(t *testing.T) {
	d := list(sym("a"), list(sym("b")))
	walk, pairs := Walk(d), 0
	for x := range walk {
		for y := range walk {
			pairs++
			if x.Kind == api.List {
				x.Items[0] = y
			}
		}
	}
	if want := Size(d) * Size(d); pairs != want {
		t.Errorf("nested it tells %d pairs, want %d", pairs, want)
	}
}

func TestWalkIsAsAsked(t *testing.T) {
	d := every(api.List)
	want := inOrder(every(api.List))
	walk := Walk(d)
	d.Items[0], d.Tail[0], d.I.L[0], d.Items[1].I.L[0] = list(), list(), 9, 9
	if got := slices.Collect(walk); !slices.EqualFunc(got, want, exactly) {
		t.Errorf("Walk tells a change behind it: %v", got)
	}
}

func TestWalkTellsNewMemory(t *testing.T) {
	d := list(every(api.Num), dotted(list(every(api.List), sym("a")), every(api.Str)))
	want := inOrder(Copy(d))
	walk := Walk(d)
	for round := range 2 {
		i := 0
		for x := range walk {
			if !exactly(x, want[i]) {
				t.Errorf("round %d: datum %d is %v, want %v", round, i, x, want[i])
			}
			scribble(x)
			i++
		}
	}
	if !exactly(d, want[0]) {
		t.Errorf("what was told shares memory with the argument: %v", d)
	}
}
