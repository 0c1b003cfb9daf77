package model

import (
	"strings"

	"pavane/api"
)

// mostPairs is how many pairs may be written of one value: a pair may contain itself.
const mostPairs = 1000

// text is what values are written as.
type text struct {
	// atom writes an atom.
	atom func(api.Datum) string
	// pairs is how many were met so far.
	pairs int
	out   strings.Builder
}

// textOf: v as a text, its atoms as atom writes them; false of more pairs than may be.
func textOf(v value, atom func(api.Datum) string) (string, bool) {
	t := text{atom: atom}
	if !t.add(v) {
		return "", false
	}
	return t.out.String(), true
}

func (t *text) add(v value) bool {
	switch v := v.(type) {
	case atom:
		t.out.WriteString(t.atom(*v.datum))
	case *pair:
		return t.list(v)
	case *box:
		t.out.WriteString("#b")
	default:
		t.out.WriteString("#p")
	}
	return true
}

// list writes the pairs from p on as one list, with what is behind the last one.
func (t *text) list(p *pair) bool {
	for ahead := "("; ; ahead = " " {
		t.pairs++
		if t.pairs > mostPairs {
			return false
		}
		t.out.WriteString(ahead)
		if !t.add(p.first) {
			return false
		}
		rest, is := p.rest.(*pair)
		if !is {
			t.end(p.rest)
			return true
		}
		p = rest
	}
}

// end writes a list's end, and what stands there: it is no pair, so it cannot be too long.
func (t *text) end(v value) {
	if !isEmpty(v) {
		t.out.WriteString(" . ")
		t.add(v)
	}
	t.out.WriteByte(')')
}
