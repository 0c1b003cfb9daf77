package expand

import (
	"pavane/api"
)

// expr makes an expression of d.
func (p place) expr(d api.Datum) api.Expr {
	p, d, m := p.unfold(d)
	switch d.Kind {
	case api.Num, api.Bool, api.Str:
		return p.constant(d)
	case api.Sym:
		return p.identifier(d.S)
	case api.List:
		return p.list(d, m)
	}
	panic(fault{api.ErrSyntax})
}

// unfold makes of d what macros make of it, till its head means something else: it tells that, and what was made, and its place.
func (p place) unfold(d api.Datum) (place, api.Datum, meaning) {
	for {
		p.begin()
		m := p.head(d)
		if m.kind != isMacro {
			return p, d, m
		}
		p, d = p.deeper(), p.use(m.macro, d.Items[1:])
	}
}

func (p place) identifier(name string) api.Expr {
	switch m := p.mean(name, p.scope); m.kind {
	case isVariable:
		return p.variable(m.number)
	case isPrimitive:
		return p.function(m.number)
	case isUnbound:
		panic(fault{api.ErrBound})
	}
	panic(fault{api.ErrSyntax})
}

// list makes an expression of a list whose head means that.
func (p place) list(d api.Datum, head meaning) api.Expr {
	need(isRow(d) && len(d.Items) > 0)
	args := d.Items[1:]
	switch head.kind {
	case isForm:
		return p.deeper().form(head.number, args)
	case isPrimitive:
		return p.deeper().primitive(head.number, args)
	}
	p.count()
	return api.Expr{Kind: api.ExCall, Kids: p.deeper().all(d.Items)}
}

// all makes an expression of each of l.
func (p place) all(l []api.Datum) []api.Expr {
	out := make([]api.Expr, len(l))
	for i, d := range l {
		out[i] = p.expr(d)
	}
	return out
}
