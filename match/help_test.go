package match

import (
	"slices"
	"strings"
	"testing"

	"pavane/api"
	"pavane/reader"
	"pavane/write"
)

const (
	// The document's numbers, not the package's: a bound that is moved must be seen.
	mostItems = 5000
	deepest   = 200
	mostBegun = 5000
)

// read is the one datum of that text; #v in it is Nothing, which no text is read as.
func read(t *testing.T, s string) api.Datum {
	t.Helper()
	d, end, err := reader.Read(strings.ReplaceAll(s, "#v", "|nothing at all|"), 0)
	if err != api.OK || strings.TrimSpace(s[min(end, len(s)):]) != "" && !strings.Contains(s, "#v") {
		t.Fatalf("%q is no datum: %v", s, err)
	}
	return withNothing(d)
}

func withNothing(d api.Datum) api.Datum {
	if d.Kind == api.Sym && d.S == "nothing at all" {
		return api.Datum{}
	}
	for _, l := range [][]api.Datum{d.Items, d.Tail} {
		for i := range l {
			l[i] = withNothing(l[i])
		}
	}
	return d
}

func sym(s string) api.Datum { return api.Datum{Kind: api.Sym, S: s} }

// num is a number of these limbs, Good or not.
func num(limbs ...uint32) api.Datum { return api.Datum{Kind: api.Num, I: api.Int{L: limbs}} }

// list is a List made without any call of the project.
func list(l ...api.Datum) api.Datum { return api.Datum{Kind: api.List, Items: l} }

// dotted is the List d with that Tail.
func dotted(d api.Datum, tail api.Datum) api.Datum {
	d.Tail = []api.Datum{tail}
	return d
}

// flat is a List of n data in all.
func flat(n int) api.Datum { return list(slices.Repeat([]api.Datum{num(1)}, n-1)...) }

// chain is x in that many Lists one in another.
func chain(lists int, x api.Datum) api.Datum {
	for range lists {
		x = list(x)
	}
	return x
}

// exactly: a and b have the same in every field; nil is an empty list.
func exactly(a, b api.Datum) bool {
	return a.Kind == b.Kind && a.I.Neg == b.I.Neg && slices.Equal(a.I.L, b.I.L) && a.B == b.B && a.S == b.S &&
		slices.EqualFunc(a.Items, b.Items, exactly) && slices.EqualFunc(a.Tail, b.Tail, exactly)
}

// leaf and many are Trees.
func leaf(d api.Datum) Tree { return Tree{D: d} }

func many(kids ...Tree) Tree { return Tree{Many: true, Kids: kids} }

// leaves is a Many of one Tree for each datum.
func leaves(l ...api.Datum) Tree {
	out := many()
	for _, d := range l {
		out.Kids = append(out.Kids, leaf(d))
	}
	return out
}

// shownTree is D as it is written, or the Kids in brackets; what must be zero and is not is shown, too.
func shownTree(t Tree) string {
	if !t.Many {
		out := write.Write(t.D)
		if len(t.Kids) > 0 {
			out += " and Kids"
		}
		return out
	}
	var out []string
	for _, kid := range t.Kids {
		out = append(out, shownTree(kid))
	}
	s := "[" + strings.Join(out, " ") + "]"
	if !exactly(t.D, api.Datum{}) {
		s += " and " + write.Write(t.D)
	}
	return s
}

func shownBinds(l []Bind) string {
	var out []string
	for _, b := range l {
		out = append(out, b.Name+"="+shownTree(b.T))
	}
	return strings.Join(out, " ")
}

// shortened is the begin of a long text.
func shortened(s string) string {
	if len(s) > 200 {
		return s[:200] + ".."
	}
	return s
}

// bads are data that are not Good: by a field, in depth, in length, in a list.
func bads() []api.Datum {
	out := []api.Datum{
		num(0), num(1, 0), {Kind: api.Num, I: api.Int{Neg: true}}, num(slices.Repeat([]uint32{1}, 65)...), sym(""), sym(strings.Repeat("x", 65)), {Kind: api.Str, S: strings.Repeat("x", 1025)},
		{Kind: -1}, {Kind: 6}, {S: "a"}, {Kind: api.Sym, S: "a", B: true}, {Kind: api.Sym, S: "...", Items: []api.Datum{sym("a")}},
		dotted(list(), sym("a")), dotted(list(sym("a")), list()), dotted(list(sym("a")), list(sym("b"))), {Kind: api.List, Items: []api.Datum{sym("a")}, Tail: []api.Datum{sym("b"), sym("c")}},
		chain(deepest, sym("a")), flat(mostItems + 1),
	}
	for _, d := range out[:16] {
		out = append(out, list(sym("a"), d), list(list(d), sym("a")), list(d, sym("...")))
	}
	return append(out, ring(1), ring(2), doubled(60), chain(1<<16, sym("a")))
}

// ring is a List that holds itself, wide times.
func ring(wide int) api.Datum {
	l := make([]api.Datum, wide)
	for i := range l {
		l[i] = list(l...)
		l[i].Items = l
	}
	return l[0]
}

// doubled is a List whose two Items are one List, and so on.
func doubled(deep int) api.Datum {
	x := list()
	for range deep {
		x = list(x, x)
	}
	return x
}

// likesOf are likes written as words: a Name, and behind it a list of All.
func likesOf(t *testing.T, s string) []Like {
	t.Helper()
	var out []Like
	d := read(t, "("+s+")")
	for i := 0; i+1 < len(d.Items); i += 2 {
		like := Like{Name: d.Items[i].S}
		for _, x := range d.Items[i+1].Items {
			like.All = append(like.All, x.S)
		}
		out = append(out, like)
	}
	return out
}
