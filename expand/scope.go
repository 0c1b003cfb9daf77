package expand

import (
	"strconv"
	"strings"

	"pavane/api"
)

// What an identifier may mean.
const (
	isUnbound = iota
	isVariable
	isMacro
	isForm
	isPrimitive
)

// meaning is what an identifier means. Two identifiers mean the same, or both are not bound and alike, if their meanings are equal.
type meaning struct {
	kind int
	// number is that of a variable, a form or a primitive.
	number int
	macro  *macro
	// name is the symbol of an identifier that is not bound, not one that a macro made of it.
	name string
}

// is: it is the form of that number.
func (m meaning) is(form int) bool {
	return m.kind == isForm && m.number == form
}

// scope is what symbols mean, but for those that scopes around it say.
type scope struct {
	around *scope
	names  map[string]meaning
}

// inside is a new scope in another.
func inside(around *scope) *scope {
	return &scope{around: around, names: map[string]meaning{}}
}

func (s *scope) has(name string) bool {
	_, ok := s.names[name]
	return ok
}

// mark stands in aliases between the symbol and its number.
const mark = "\x00"

// Strip: s up to its first byte 0, behind which a macro's own symbols have a number.
func Strip(s string) string {
	ahead, _, _ := strings.Cut(s, mark)
	return ahead
}

// alias is what a symbol was made of by a macro, and the scope where that macro was made.
type alias struct {
	of    string
	where *scope
}

// newAlias is a new symbol for one that stands in a macro's template.
func (x *expander) newAlias(of string, where *scope) string {
	name := of + mark + strconv.Itoa(len(x.aliases)+1)
	x.aliases[name] = alias{of, where}
	return name
}

// mean is what a symbol means in a scope.
func (x *expander) mean(name string, where *scope) meaning {
	for s := where; s != nil; s = s.around {
		if m, ok := s.names[name]; ok {
			return m
		}
	}
	if a, ok := x.aliases[name]; ok {
		return x.mean(a.of, a.where)
	}
	return x.given(name)
}

// given is what a symbol means that no scope of the program has.
func (x *expander) given(name string) meaning {
	if f := form(name); f > 0 {
		return meaning{kind: isForm, number: f}
	}
	if p := primitive(name); p > 0 {
		return meaning{kind: isPrimitive, number: p}
	}
	if m, ok := x.baseMacro(name); ok {
		return m
	}
	return meaning{name: name}
}

// place is where a form stands: in a scope, and with how many forms in one another, itself too.
type place struct {
	*expander
	scope *scope
	deep  int
}

// in is this place in another scope.
func (p place) in(s *scope) place {
	p.scope = s
	return p
}

// deeper is the place of what stands in the form here.
func (p place) deeper() place {
	p.deep++
	return p
}

// begin is called ahead of all else that is done with a form.
func (p place) begin() {
	if p.deep > api.MaxDeep {
		panic(fault{api.ErrDeep})
	}
}

// head is what the first item of d means, if d is a form or a call of something that has a name.
func (p place) head(d api.Datum) meaning {
	if !isRow(d) || len(d.Items) == 0 || d.Items[0].Kind != api.Sym {
		return meaning{}
	}
	return p.mean(d.Items[0].S, p.scope)
}

// isRow: d is a list without a Tail.
func isRow(d api.Datum) bool {
	return d.Kind == api.List && len(d.Tail) == 0
}
