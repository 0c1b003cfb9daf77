package datum

import (
	"pavane/api"
	"pavane/whole"
)

// Number: n as a datum.
func Number(n int) api.Datum {
	return api.Datum{Kind: api.Num, I: whole.Of(n)}
}

// Truth: b as a datum.
func Truth(b bool) api.Datum {
	return api.Datum{Kind: api.Bool, B: b}
}

// Symbol: the symbol of that name.
func Symbol(s string) api.Datum {
	return api.Datum{Kind: api.Sym, S: s}
}

// Text: s as a string.
func Text(s string) api.Datum {
	return api.Datum{Kind: api.Str, S: s}
}

// Items: the list of l. The chapter gives it no bound: only what is beyond the document's, which need not end, is Nothing.
func Items(l ...api.Datum) api.Datum {
	return copied(api.Datum{Kind: api.List, Items: l}, given())
}

// Pair: Norm of the list whose first is a, and the rest b.
func Pair(a, b api.Datum) api.Datum {
	return Norm(api.Datum{Kind: api.List, Items: []api.Datum{a}, Tail: []api.Datum{b}})
}

// Split: the first of a List's Items, and the rest, with no bound but that of Items; false of what is no List with Items.
func Split(d api.Datum) (api.Datum, api.Datum, bool) {
	if d.Kind != api.List || len(d.Items) == 0 {
		return api.Datum{}, api.Datum{}, false
	}
	first := copied(d.Items[0], given())
	if len(d.Items) == 1 && len(d.Tail) > 0 {
		return first, copied(d.Tail[0], given()), true
	}
	return first, copied(api.Datum{Kind: api.List, Items: d.Items[1:], Tail: d.Tail}, given()), true
}
