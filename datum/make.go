package datum

import (
	"pavane/api"
	"pavane/whole"
)

// Number: n as a datum.
func Number(n int) api.Datum {
	return api.Datum{Kind: api.Num, I: whole.Of(n)}
}

// Truth: b as a datum.
func Truth(b bool) api.Datum {
	return api.Datum{Kind: api.Bool, B: b}
}

// Symbol: the symbol of that name.
func Symbol(s string) api.Datum {
	return api.Datum{Kind: api.Sym, S: s}
}

// Text: s as a string.
func Text(s string) api.Datum {
	return api.Datum{Kind: api.Str, S: s}
}

// Items: the list of Copies of l.
func Items(l ...api.Datum) api.Datum {
	return api.Datum{Kind: api.List, Items: each(l, Copy)}
}

// Pair: Norm of the list whose first is a, and the rest b.
func Pair(a, b api.Datum) api.Datum {
	return Norm(api.Datum{Kind: api.List, Items: []api.Datum{a}, Tail: []api.Datum{b}})
}

// Split: Copies of the first of a List's Items, and of the rest; false of what is no List with Items.
func Split(d api.Datum) (api.Datum, api.Datum, bool) {
	if d.Kind != api.List || len(d.Items) == 0 {
		return api.Datum{}, api.Datum{}, false
	}
	first, left := Copy(d.Items[0]), d.Items[1:]
	if len(left) == 0 && len(d.Tail) > 0 {
		return first, Copy(d.Tail[0]), true
	}
	return first, api.Datum{Kind: api.List, Items: each(left, Copy), Tail: each(d.Tail, Copy)}, true
}
