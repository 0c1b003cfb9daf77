package core

import (
	"strconv"
	"strings"

	"pavane/api"
	"pavane/write"
)

// Write: e as a text; "" of one that is too long or too deep.
func Write(e api.Expr) string {
	if !isLookedAt(e) {
		return ""
	}
	var out strings.Builder
	p := pen{out: &out}
	p.expr(e)
	return out.String()
}

type pen struct{ out *strings.Builder }

func (p pen) expr(e api.Expr) {
	switch e.Kind {
	case api.ExConst:
		p.form("quote "+write.Write(e.D), nil)
	case api.ExVar:
		p.out.WriteString(name(e.V))
	case api.ExSet:
		p.form("set! "+name(e.V), e.Kids)
	case api.ExIf:
		p.form("if", e.Kids)
	case api.ExLambda:
		p.form("lambda "+formals(e.Vars, e.Rest), e.Kids)
	case api.ExCall:
		p.form("", e.Kids)
	case api.ExPrim:
		p.form("%"+strconv.Itoa(e.P), e.Kids)
	case api.ExLet:
		p.form("let "+name(e.V), e.Kids)
	case api.ExSeq:
		p.form("begin", e.Kids)
	default:
		p.out.WriteString("?")
	}
}

// form writes kids behind head, if there is one, in parentheses.
func (p pen) form(head string, kids []api.Expr) {
	p.out.WriteString("(" + head)
	for i, kid := range kids {
		if i > 0 || head != "" {
			p.out.WriteString(" ")
		}
		p.expr(kid)
	}
	p.out.WriteString(")")
}

func name(v int) string {
	return "v" + strconv.Itoa(v)
}

// formals are a lambda's variables; the last one is behind a dot, or alone, if it is a list of what is left.
func formals(vars []int, rest bool) string {
	if rest && len(vars) == 1 {
		return name(vars[0])
	}
	var out strings.Builder
	for i, v := range vars {
		if i > 0 {
			out.WriteString(" ")
		}
		if rest && i == len(vars)-1 {
			out.WriteString(". ")
		}
		out.WriteString(name(v))
	}
	return "(" + out.String() + ")"
}
