package write

import (
	"math"
	"slices"

	"pavane/api"
)

const (
	// The document's numbers, not a package's: a bound that is moved must be seen.
	mostLooked    = 100000
	deepestLooked = 10000
	longestName   = 64
)

// num is a number of these limbs, Good or not.
func num(neg bool, limbs ...uint32) api.Datum {
	return api.Datum{Kind: api.Num, I: api.Int{Neg: neg, L: limbs}}
}

func sym(s string) api.Datum { return api.Datum{Kind: api.Sym, S: s} }

func str(s string) api.Datum { return api.Datum{Kind: api.Str, S: s} }

func boolean(b bool) api.Datum { return api.Datum{Kind: api.Bool, B: b} }

func list(l ...api.Datum) api.Datum { return api.Datum{Kind: api.List, Items: l} }

// dotted is the List d with these Tails.
func dotted(d api.Datum, tails ...api.Datum) api.Datum {
	d.Tail = tails
	return d
}

// every is a datum of that Kind with something in every field.
func every(kind int) api.Datum {
	return api.Datum{Kind: kind, I: api.Int{Neg: true, L: []uint32{5, 0}}, B: true, S: "a b",
		Items: []api.Datum{sym("i"), num(true, 0)}, Tail: []api.Datum{sym("t"), sym("u")}}
}

// chain is x in Lists one in another, deep in all.
func chain(deep int, x api.Datum) api.Datum {
	for range deep - 1 {
		x = list(x)
	}
	return x
}

// tailChain is x behind Lists that are one another's Tails, deep in all.
func tailChain(deep int, x api.Datum) api.Datum {
	for range deep - 1 {
		x = dotted(list(num(false, 1)), x)
	}
	return x
}

// nothings is a list of n Nothings.
func nothings(n int) []api.Datum { return make([]api.Datum, n) }

// ring is a List that holds itself.
func ring() api.Datum {
	l := make([]api.Datum, 1)
	l[0] = list(l...)
	return l[0]
}

// ringOfTails is a List that is its own Tail, and an Item is in it.
func ringOfTails() api.Datum {
	l := make([]api.Datum, 1)
	l[0] = dotted(list(sym("a")), l...)
	return l[0]
}

// doubled is a List whose two Items are one List, and so on: few lists, and more data than can be gone through.
func doubled(deep int) api.Datum {
	x := list()
	for range deep {
		x = list(x, x)
	}
	return x
}

// tooMuch are data of which no call looks at all.
func tooMuch() []api.Datum {
	return []api.Datum{
		list(nothings(mostLooked)...),
		dotted(list(sym("a")), nothings(mostLooked-1)...),
		list(sym("a"), list(nothings(mostLooked-2)...)),
		{Kind: api.Nothing, Items: nothings(mostLooked)},
		{Kind: api.Sym, S: "a", Items: nothings(mostLooked)},
		{Kind: api.Num, Tail: nothings(mostLooked)},
		{Kind: 9, Tail: nothings(mostLooked)},
		chain(deepestLooked+1, sym("a")), chain(deepestLooked+1, api.Datum{}),
		tailChain(deepestLooked+1, sym("a")), tailChain(deepestLooked+1, list()),
		{Kind: api.Str, S: "a", Items: []api.Datum{chain(deepestLooked, sym("a"))}},
		{Kind: math.MinInt, Tail: []api.Datum{chain(deepestLooked, sym("a"))}},
		ring(), ringOfTails(), doubled(17), doubled(2000),
	}
}

// exactly: a and b have the same in every field; nil is an empty list.
func exactly(a, b api.Datum) bool {
	return a.Kind == b.Kind && a.I.Neg == b.I.Neg && slices.Equal(a.I.L, b.I.L) && a.B == b.B && a.S == b.S &&
		slices.EqualFunc(a.Items, b.Items, exactly) && slices.EqualFunc(a.Tail, b.Tail, exactly)
}
