package expand

import (
	"pavane/api"
	"pavane/datum"
)

// body is what stands in a lambda, a let-syntax or a program: first it is looked through for definitions, then its expression is made.
type body struct {
	place
	// anywhere: definitions may stand behind expressions, too.
	anywhere bool
	// locals are the variables that are defined, in order.
	locals []local
	parts  []part
	// isBegun: an expression was met; isEnded: what was met last is one.
	isBegun, isEnded bool
}

// local is a variable that a body defines, and which datum of the program the definition is of.
type local struct {
	at, variable int
}

// body makes an expression of a body that is not a program's.
func (p place) body(l []api.Datum) api.Expr {
	b := &body{place: p.in(inside(p.scope))}
	for _, d := range l {
		b.look(b.place, d)
	}
	need(b.isBegun)
	return b.expr()
}

// look puts what d is, or what macros make of it, to what was found in the body.
func (b *body) look(p place, d api.Datum) {
	p, d, head := p.unfold(d)
	mayDefine := b.anywhere || !b.isBegun
	switch {
	case head.is(formBegin) && mayDefine:
		for _, item := range d.Items[1:] {
			b.look(p.deeper(), item)
		}
	case head.is(formDefine):
		need(mayDefine)
		b.define(p.deeper(), d.Items[1:])
	case head.is(formDefineSyntax):
		need(mayDefine)
		b.defineSyntax(d.Items[1:])
	default:
		b.isBegun, b.isEnded = true, true
		b.add(func() api.Expr { return p.expr(d) })
	}
}

// add puts a part behind the others: its expression is made when all of the body was looked through.
func (b *body) add(later func() api.Expr) {
	b.parts = append(b.parts, part{b.at, later})
}

// define is look for what stands behind define.
func (b *body) define(p place, args []api.Datum) {
	need(len(args) > 1)
	name, formals, isFunction := datum.Split(args[0])
	if isFunction {
		need(name.Kind == api.Sym)
		b.addSet(name.S, func() api.Expr { return p.lambda(formals, args[1:]) })
		return
	}
	need(len(args) == 2 && args[0].Kind == api.Sym)
	b.addSet(args[0].S, func() api.Expr { return p.expr(args[1]) })
}

// addSet adds a part that sets a variable of the body's own.
func (b *body) addSet(name string, later func() api.Expr) {
	v := b.local(name)
	b.isEnded = false
	b.add(func() api.Expr {
		b.count()
		return api.Expr{Kind: api.ExSet, V: v, Kids: []api.Expr{later()}}
	})
}

// local is the variable that a definition of that name sets: a new one, but where a program has it already.
func (b *body) local(name string) int {
	if m := b.scope.names[name]; b.anywhere && m.kind == isVariable {
		return m.number
	}
	v := b.newVariable()
	b.locals = append(b.locals, local{b.at, v})
	b.scope.names[name] = meaning{kind: isVariable, number: v}
	return v
}

// defineSyntax is look for what stands behind define-syntax.
func (b *body) defineSyntax(args []api.Datum) {
	need(len(args) == 2 && args[0].Kind == api.Sym)
	b.scope.names[args[0].S] = meaning{kind: isMacro, macro: newMacro(args[1], b.scope)}
	b.isEnded = false
}

// expr makes the expression of a body that was looked through.
func (b *body) expr() api.Expr {
	for _, l := range b.locals {
		b.at = l.at
		b.count()
		b.count()
	}
	out := b.sequence(b.parts)
	for i := len(b.locals) - 1; i >= 0; i-- {
		nothing := api.Expr{Kind: api.ExConst}
		out = api.Expr{Kind: api.ExLet, V: b.locals[i].variable, Kids: []api.Expr{nothing, out}}
	}
	return out
}
