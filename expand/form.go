package expand

import (
	"slices"

	"pavane/api"
	"pavane/datum"
)

// The forms, by their numbers.
const (
	formQuote = iota + 1
	formLambda
	formIf
	formSet
	formBegin
	formDefine
	formDefineSyntax
	formLetSyntax
	formLetrecSyntax
)

// forms are their names, in the order of their numbers.
var forms = [...]string{"quote", "lambda", "if", "set!", "begin", "define", "define-syntax", "let-syntax", "letrec-syntax"}

// form is the number of that name; 0 if there is none.
func form(name string) int {
	for i, s := range forms {
		if s == name {
			return i + 1
		}
	}
	return 0
}

// form makes an expression of a form with these data in it, of which p is the place.
func (p place) form(number int, args []api.Datum) api.Expr {
	switch number {
	case formQuote:
		return p.quote(args)
	case formLambda:
		need(len(args) > 0)
		return p.lambda(args[0], args[1:])
	case formIf:
		return p.choose(args)
	case formSet:
		return p.assign(args)
	case formBegin:
		return p.block(args)
	case formLetSyntax, formLetrecSyntax:
		return p.letSyntax(args, number == formLetrecSyntax)
	}
	// A definition stands only where a body is looked through.
	panic(fault{api.ErrSyntax})
}

func (p place) quote(args []api.Datum) api.Expr {
	need(len(args) == 1)
	return p.constant(withSymbols(args[0], func(s string) api.Datum { return datum.Symbol(Strip(s)) }))
}

// withSymbols is d with something in the stead of each symbol in it, from the left on.
func withSymbols(d api.Datum, stead func(string) api.Datum) api.Datum {
	switch d.Kind {
	case api.Sym:
		return stead(d.S)
	case api.List:
		each := func(l []api.Datum) []api.Datum {
			out := make([]api.Datum, len(l))
			for i, x := range l {
				out[i] = withSymbols(x, stead)
			}
			return out
		}
		return api.Datum{Kind: api.List, Items: each(d.Items), Tail: each(d.Tail)}
	}
	return d
}

// lambda makes a function of what its variables are to be, and of its body.
func (p place) lambda(formals api.Datum, l []api.Datum) api.Expr {
	p = p.in(inside(p.scope))
	out := api.Expr{Kind: api.ExLambda, Rest: !isRow(formals)}
	for _, d := range namesOf(formals) {
		need(d.Kind == api.Sym && !p.scope.has(d.S))
		v := p.newVariable()
		out.Vars = append(out.Vars, v)
		p.scope.names[d.S] = meaning{kind: isVariable, number: v}
	}
	p.count()
	out.Kids = []api.Expr{p.body(l)}
	return out
}

// namesOf are the data that must be symbols where formals stand.
func namesOf(formals api.Datum) []api.Datum {
	if formals.Kind != api.List {
		return []api.Datum{formals}
	}
	return slices.Concat(formals.Items, formals.Tail)
}

func (p place) choose(args []api.Datum) api.Expr {
	need(len(args) == 2 || len(args) == 3)
	p.count()
	kids := p.all(args)
	if len(args) == 2 {
		kids = append(kids, p.void())
	}
	return api.Expr{Kind: api.ExIf, Kids: kids}
}

func (p place) assign(args []api.Datum) api.Expr {
	need(len(args) == 2 && args[0].Kind == api.Sym)
	m := p.mean(args[0].S, p.scope)
	if m.kind == isUnbound {
		panic(fault{api.ErrBound})
	}
	need(m.kind == isVariable)
	p.count()
	return api.Expr{Kind: api.ExSet, V: m.number, Kids: p.all(args[1:])}
}

func (p place) block(args []api.Datum) api.Expr {
	need(len(args) > 0)
	parts := make([]part, len(args))
	for i, d := range args {
		parts[i] = part{p.at, func() api.Expr { return p.expr(d) }}
	}
	return p.sequence(parts)
}

// letSyntax makes the macros in the scope around, or in the one that they stand in, so that they know one another.
func (p place) letSyntax(args []api.Datum, know bool) api.Expr {
	need(len(args) > 0 && isRow(args[0]))
	around := p.scope
	p = p.in(inside(around))
	if know {
		around = p.scope
	}
	for _, d := range args[0].Items {
		need(isRow(d) && len(d.Items) == 2 && d.Items[0].Kind == api.Sym)
		m := newMacro(d.Items[1], around)
		if !p.scope.has(d.Items[0].S) {
			p.scope.names[d.Items[0].S] = meaning{kind: isMacro, macro: m}
		}
	}
	return p.body(args[1:])
}
