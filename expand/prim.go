package expand

import (
	"pavane/api"
	"pavane/datum"
)

// Prim: the number of the primitive of that name, and how many arguments it takes; false if there is none.
func Prim(name string) (int, int, bool) {
	p := primitive(name)
	if p == 0 {
		return 0, 0, false
	}
	return p, arity(p), true
}

// primitives are the names of the primitives, in the order of their numbers, from 1 on.
var primitives = [...]string{
	"+", "-", "*", "quotient", "remainder", "modulo", "=", "<",
	"cons", "car", "cdr", "set-car!", "set-cdr!",
	"null?", "pair?", "integer?", "symbol?", "string?", "boolean?", "procedure?",
	"eq?", "not", "string-length", "string-append", "string=?", "symbol->string", "number->string",
	"write", "display", "newline", "read-byte", "raise", "call/cc", "apply",
	"box", "unbox", "set-box!", "void",
}

// primitive is the number of that name; 0 if there is none.
func primitive(name string) int {
	for i, s := range primitives {
		if s == name {
			return i + 1
		}
	}
	return 0
}

// arity is how many arguments the primitive of that number takes.
func arity(p int) int {
	switch p {
	case api.PNewline, api.PRead, api.PVoid:
		return 0
	case api.PAdd, api.PSub, api.PMul, api.PQuo, api.PRem, api.PMod, api.PEq, api.PLess,
		api.PCons, api.PSetCar, api.PSetCdr, api.PEqQ, api.PStrApp, api.PStrEq, api.PApply, api.PSetBox:
		return 2
	}
	return 1
}

// function is a lambda that does what a primitive does.
func (p place) function(primitive int) api.Expr {
	p.count()
	out := api.Expr{Kind: api.ExLambda}
	p.count()
	does := api.Expr{Kind: api.ExPrim, P: primitive}
	for range arity(primitive) {
		v := p.newVariable()
		out.Vars = append(out.Vars, v)
		does.Kids = append(does.Kids, p.variable(v))
	}
	out.Kids = []api.Expr{does}
	return out
}

// primitive makes an expression of a primitive and its arguments.
func (p place) primitive(number int, args []api.Datum) api.Expr {
	switch number {
	case api.PAdd, api.PMul:
		if len(args) < 2 {
			return p.few(number, args)
		}
		return p.chain(number, args)
	case api.PSub:
		need(len(args) > 0)
		if len(args) == 1 {
			args = []api.Datum{datum.Number(0), args[0]}
		}
		return p.chain(number, args)
	}
	need(len(args) == arity(number))
	p.count()
	return api.Expr{Kind: api.ExPrim, P: number, Kids: p.all(args)}
}

// few makes an expression of the sum or the product of none or of one.
func (p place) few(number int, args []api.Datum) api.Expr {
	switch {
	case len(args) == 1:
		return p.expr(args[0])
	case number == api.PMul:
		return p.constant(datum.Number(1))
	}
	return p.constant(datum.Number(0))
}

// chain makes an expression of a primitive of two, which is done of the first two arguments, of that and the next one, and so on.
func (p place) chain(number int, args []api.Datum) api.Expr {
	for range args[1:] {
		p.count()
	}
	kids := p.all(args)
	out := kids[0]
	for _, kid := range kids[1:] {
		out = api.Expr{Kind: api.ExPrim, P: number, Kids: []api.Expr{out, kid}}
	}
	return out
}
