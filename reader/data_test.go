package reader

import (
	"fmt"
	"slices"
	"strings"

	"pavane/api"
)

const (
	// The document's numbers, not a package's: a bound that is moved must be seen.
	longestText   = 16384
	deepest       = 200
	mostItems     = 5000
	mostLimbs     = 64
	longestName   = 64
	longestString = 1024
)

// num is a Good number of these limbs.
func num(neg bool, limbs ...uint32) api.Datum {
	return api.Datum{Kind: api.Num, I: api.Int{Neg: neg, L: limbs}}
}

func sym(s string) api.Datum { return api.Datum{Kind: api.Sym, S: s} }

func str(s string) api.Datum { return api.Datum{Kind: api.Str, S: s} }

func boolean(b bool) api.Datum { return api.Datum{Kind: api.Bool, B: b} }

func list(l ...api.Datum) api.Datum { return api.Datum{Kind: api.List, Items: l} }

// dotted is the List d with this Tail.
func dotted(d, tail api.Datum) api.Datum {
	d.Tail = []api.Datum{tail}
	return d
}

// chain is x in so many Lists.
func chain(lists int, x api.Datum) api.Datum {
	for range lists {
		x = list(x)
	}
	return x
}

// nested is s, with so many of open ahead of it, and of end behind it.
func nested(n int, open, s, end string) string {
	return strings.Repeat(open, n) + s + strings.Repeat(end, n)
}

// exactly: a and b have the same in every field; nil is an empty list.
func exactly(a, b api.Datum) bool {
	return a.Kind == b.Kind && a.I.Neg == b.I.Neg && slices.Equal(a.I.L, b.I.L) && a.B == b.B && a.S == b.S &&
		slices.EqualFunc(a.Items, b.Items, exactly) && slices.EqualFunc(a.Tail, b.Tail, exactly)
}

func isZero(d api.Datum) bool { return exactly(d, api.Datum{}) }

// shown is s, or its begin, if it is long.
func shown(s string) string {
	if len(s) > 80 {
		return s[:80] + ".."
	}
	return s
}

// told is d with all its fields, or the begin of that.
func told(d api.Datum) string { return shown(fmt.Sprint(d)) }

// texts are all texts of up to most of these parts.
func texts(most int, parts ...string) []string {
	out, last := []string{""}, []string{""}
	for range most {
		var next []string
		for _, s := range last {
			for _, part := range parts {
				next = append(next, s+part)
			}
		}
		out, last = append(out, next...), next
	}
	return out
}
