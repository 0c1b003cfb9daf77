package write

import (
	"math"
	"math/big"
	"slices"
	"strings"
	"testing"

	"pavane/api"
)

// cases are data, and as what they are to be written and displayed.
func cases() []struct {
	d              api.Datum
	write, display string
} {
	a, b, c := sym("a"), sym("b"), sym("c")
	return []struct {
		d              api.Datum
		write, display string
	}{
		{api.Datum{}, "#v", "#v"},
		{num(false), "0", "0"},
		{num(false, 1), "1", "1"},
		{num(true, 12), "-12", "-12"},
		{num(false, 0, 1), "4294967296", "4294967296"},
		{num(true, 0, 0, 1), "-18446744073709551616", "-18446744073709551616"},
		{boolean(true), "#t", "#t"},
		{boolean(false), "#f", "#f"},
		{a, "a", "a"},
		{sym("a b"), "|a b|", "a b"},
		{sym("1"), "|1|", "1"},
		{sym("."), "|.|", "."},
		{sym(""), "||", ""},
		{sym("a|\\\n\xff"), `|a\|\\\x0a;\xff;|`, "a|\\\n\xff"},
		{sym(strings.Repeat("x", longestName+1)), "|" + strings.Repeat("x", longestName+1) + "|", strings.Repeat("x", longestName+1)},
		{str("b"), `"b"`, "b"},
		{str(""), `""`, ""},
		{str("a\"\\\n\t|\x00\xff"), `"a\"\\\n\t|\x00;\xff;"`, "a\"\\\n\t|\x00\xff"},
		{str(strings.Repeat("x", api.MaxStr+1)), `"` + strings.Repeat("x", api.MaxStr+1) + `"`, strings.Repeat("x", api.MaxStr+1)},
		{list(), "()", "()"},
		{list(a), "(a)", "(a)"},
		{list(a, str("b"), sym("a b")), `(a "b" |a b|)`, "(a b a b)"},
		{list(a, b, c), "(a b c)", "(a b c)"},
		{list(num(true, 1), boolean(true), api.Datum{}), "(-1 #t #v)", "(-1 #t #v)"},
		{list(list()), "(())", "(())"},
		{list(list(a), list(), list(list(b), c)), "((a) () ((b) c))", "((a) () ((b) c))"},
		{list(sym("quote"), a), "(quote a)", "(quote a)"},
		{list(sym(""), str("")), `(|| "")`, "( )"},
		{dotted(list(a), b), "(a . b)", "(a . b)"},
		{dotted(list(a, b), c), "(a b . c)", "(a b . c)"},
		{dotted(list(a), api.Datum{}), "(a . #v)", "(a . #v)"},
		{dotted(list(a), str("b c")), `(a . "b c")`, "(a . b c)"},
		{dotted(list(sym(".")), sym(".")), "(|.| . |.|)", "(. . .)"},
		{list(dotted(list(a), b), dotted(list(list(c)), num(false, 7))), "((a . b) ((c) . 7))", "((a . b) ((c) . 7))"},
	}
}

func TestWriteAndDisplay(t *testing.T) {
	for i, x := range cases() {
		if got := Write(x.d); got != x.write {
			t.Errorf("case %d: Write: %s, want %s", i, got, x.write)
		}
		if got := Display(x.d); got != x.display {
			t.Errorf("case %d: Display: %s, want %s", i, got, x.display)
		}
	}
}

// What is written is Norm of what is handed in.
func TestNormIsWritten(t *testing.T) {
	a, b, c := sym("a"), sym("b"), sym("c")
	for i, x := range []struct {
		d    api.Datum
		want string
	}{
		{num(true), "0"}, {num(false, 0), "0"}, {num(true, 0, 0), "0"}, {num(true, 5, 0), "-5"}, {num(false, 0, 1, 0, 0), "4294967296"},
		{num(false, slices.Repeat([]uint32{0}, 200)...), "0"},
		{every(api.Nothing), "#v"}, {every(api.Num), "-5"}, {every(api.Bool), "#t"}, {every(api.Sym), "|a b|"}, {every(api.Str), `"a b"`}, {every(api.List), "(i 0 . t)"},
		{every(-1), "#v"}, {every(6), "#v"}, {every(math.MinInt), "#v"}, {every(math.MaxInt), "#v"}, {every(256 + api.Sym), "#v"},
		{list(every(7), a), "(#v a)"}, {dotted(list(a), every(7)), "(a . #v)"},
		{dotted(list(a), b, c), "(a . b)"}, {dotted(list(a), list(b), c), "(a b)"}, {dotted(list(a), list(), c), "(a)"},
		{dotted(list(a), list()), "(a)"}, {dotted(list(a), list(b, c)), "(a b c)"}, {dotted(list(a), dotted(list(b), c)), "(a b . c)"},
		{dotted(list(), a), "a"}, {dotted(list(), list()), "()"}, {dotted(list(), list(a)), "(a)"}, {dotted(list(), dotted(list(), num(true, 0))), "0"},
		{dotted(list(), dotted(list(a), b)), "(a . b)"}, {dotted(list(a), dotted(list(), b)), "(a . b)"}, {dotted(list(), api.Datum{}), "#v"},
		{list(dotted(list(), a), dotted(list(b), list(c))), "(a (b c))"},
		{api.Datum{Kind: api.List, Items: []api.Datum{}, Tail: []api.Datum{}, S: "a"}, "()"},
	} {
		if got := Write(x.d); got != x.want {
			t.Errorf("case %d: Write: %s, want %s", i, got, x.want)
		}
		want := strings.NewReplacer("|", "", `"`, "").Replace(x.want)
		if got := Display(x.d); got != want {
			t.Errorf("case %d: Display: %s, want %s", i, got, want)
		}
	}
}

// More limbs than a Good number has are written, too.
func TestLongNumbers(t *testing.T) {
	for _, n := range []int{1, 2, 9, api.MaxLimbs, api.MaxLimbs + 1, 200} {
		one := big.NewInt(1)
		want := one.Sub(new(big.Int).Lsh(one, uint(32*n)), one).String()
		limbs := slices.Repeat([]uint32{math.MaxUint32}, n)
		if got := Write(list(num(false, limbs...), num(true, limbs...))); got != "("+want+" -"+want+")" {
			t.Errorf("Write of %d limbs: %s, want %s", n, got, want)
		}
	}
}

func TestAsMuchAsIsLookedAt(t *testing.T) {
	for i, x := range []struct {
		d    api.Datum
		want string
	}{
		{list(nothings(mostLooked - 1)...), "(" + strings.Repeat("#v ", mostLooked-2) + "#v)"},
		{dotted(list(sym("a")), nothings(mostLooked-2)...), "(a . #v)"},
		{api.Datum{Kind: api.Nothing, Items: nothings(mostLooked - 1)}, "#v"},
		{api.Datum{Kind: api.Sym, S: "a", Tail: nothings(mostLooked - 1)}, "a"},
		{chain(deepestLooked, sym("a")), strings.Repeat("(", deepestLooked-1) + "a" + strings.Repeat(")", deepestLooked-1)},
		{chain(deepestLooked, list()), strings.Repeat("(", deepestLooked) + strings.Repeat(")", deepestLooked)},
		{tailChain(deepestLooked, sym("a")), "(" + strings.Repeat("1 ", deepestLooked-1) + ". a)"},
		{tailChain(deepestLooked, list()), "(" + strings.Repeat("1 ", deepestLooked-2) + "1)"},
		{api.Datum{Kind: 9, Items: []api.Datum{chain(deepestLooked-1, list())}}, "#v"},
	} {
		if got := Write(x.d); got != x.want {
			t.Errorf("case %d: Write tells %d bytes, want %d", i, len(got), len(x.want))
		}
		if got := Display(x.d); got != x.want {
			t.Errorf("case %d: Display tells %d bytes, want %d", i, len(got), len(x.want))
		}
	}
}

func TestMoreThanIsLookedAt(t *testing.T) {
	for i, d := range tooMuch() {
		if got := Write(d); got != "" {
			t.Errorf("datum %d: Write tells %d bytes", i, len(got))
		}
		if got := Display(d); got != "" {
			t.Errorf("datum %d: Display tells %d bytes", i, len(got))
		}
	}
}

// roomy is a copy of d with marks in the room behind all its lists.
func roomy(d api.Datum) api.Datum {
	d.I.L = behind(d.I.L, 0xdecade)
	d.Items, d.Tail = roomyList(d.Items), roomyList(d.Tail)
	return d
}

func roomyList(l []api.Datum) []api.Datum {
	var out []api.Datum
	for _, x := range l {
		out = append(out, roomy(x))
	}
	return behind(out, sym("mark"))
}

// behind is a copy of l with room behind its end, in which marks stand.
func behind[T any](l []T, mark T) []T {
	out := append(slices.Clone(l), mark, mark)
	return out[:len(l):len(out)]
}

// unfolded is d with what stands in the room behind its lists.
func unfolded(d api.Datum) api.Datum {
	d.I.L = d.I.L[:cap(d.I.L)]
	d.Items, d.Tail = unfoldedList(d.Items), unfoldedList(d.Tail)
	return d
}

func unfoldedList(l []api.Datum) []api.Datum {
	var out []api.Datum
	for _, x := range l[:cap(l)] {
		out = append(out, unfolded(x))
	}
	return out
}

func TestArgumentsAreLeft(t *testing.T) {
	data := []api.Datum{list(every(api.List), dotted(list(every(api.Num), sym("a b")), every(api.List), every(api.Str)))}
	for kind := -1; kind <= 6; kind++ {
		data = append(data, every(kind))
	}
	for _, x := range cases() {
		data = append(data, x.d)
	}
	for i, d := range data {
		x, want := roomy(d), unfolded(roomy(d))
		first, second := Write(x), Display(x)
		if !exactly(unfolded(x), want) {
			t.Errorf("datum %d is changed: %v, want %v", i, unfolded(x), want)
		}
		if Write(x) != first || Display(x) != second {
			t.Errorf("datum %d is written otherwise the second time", i)
		}
	}
}

// What was answered is not changed by what happens to the argument behind the call.
func TestAnswersAreKept(t *testing.T) {
	d := list(num(false, 5), sym("a"), list(sym("b")))
	got := Write(d)
	d.Items[0].I.L[0], d.Items[1].S, d.Items[2].Items[0] = 6, "c", list()
	if again := Write(d); got != "(5 a (b))" || again != "(6 c (()))" {
		t.Errorf("Write: %s, and behind a change %s", got, again)
	}
}
