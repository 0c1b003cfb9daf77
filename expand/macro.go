package expand

import (
	"pavane/api"
	"pavane/datum"
	"pavane/match"
)

const (
	rulesName = "syntax-rules"
	// dots are the one symbol of a template beside the pattern's variables that stays as it is.
	dots = "..."
)

// macro is rules, and the scope where they were made.
type macro struct {
	where    *scope
	literals []match.Like
	rules    []rule
}

// rule is a pattern, without its first item, and a template.
type rule struct {
	pattern, template api.Datum
}

// newMacro is the macro of the rules d.
func newMacro(d api.Datum, where *scope) *macro {
	need(isRow(d) && len(d.Items) >= 2 && isRow(d.Items[1]))
	need(d.Items[0].Kind == api.Sym && Strip(d.Items[0].S) == rulesName)
	m := &macro{where: where}
	for _, literal := range d.Items[1].Items {
		need(literal.Kind == api.Sym)
		m.literals = append(m.literals, match.Like{Name: literal.S})
	}
	for _, r := range d.Items[2:] {
		need(isRow(r) && len(r.Items) == 2)
		first, pattern, ok := datum.Split(r.Items[0])
		need(ok && first.Kind == api.Sym && match.Check(pattern, m.literals) == api.OK)
		m.rules = append(m.rules, rule{pattern, r.Items[1]})
	}
	return m
}

// use is what a macro makes of what stands behind its name here.
func (p place) use(m *macro, args []api.Datum) api.Datum {
	if p.uses == mostUses {
		panic(fault{api.ErrLong})
	}
	p.uses++
	d := api.Datum{Kind: api.List, Items: args}
	likes := p.likes(m, d)
	for _, r := range m.rules {
		if binds, ok := match.Match(r.pattern, d, likes); ok {
			made, err := match.Fill(p.renamed(r.template, binds, m.where), binds)
			if err != api.OK {
				panic(fault{err})
			}
			return made
		}
	}
	panic(fault{api.ErrSyntax})
}

// likes are a macro's literals, each with those symbols of d that mean here what it means where the macro was made.
func (p place) likes(m *macro, d api.Datum) []match.Like {
	if len(m.literals) == 0 {
		return nil
	}
	// What two symbols mean can be the same only if they are, but for what macros put behind them.
	namesakes := map[string][]string{}
	places := map[string]int{}
	tellSymbols(d, func(name string) {
		places[name]++
		if places[name] == 1 {
			namesakes[Strip(name)] = append(namesakes[Strip(name)], name)
		}
	})
	out := make([]match.Like, len(m.literals))
	for i, literal := range m.literals {
		out[i].Name = literal.Name
		for _, name := range namesakes[Strip(literal.Name)] {
			if p.mean(name, p.scope) == p.mean(literal.Name, m.where) {
				out[i].All = append(out[i].All, name)
			}
		}
	}
	return out
}

// tellSymbols tells each place of a symbol in d, from the left on.
func tellSymbols(d api.Datum, told func(string)) {
	if d.Kind == api.Sym {
		told(d.S)
	}
	for _, item := range d.Items {
		tellSymbols(item, told)
	}
	for _, tail := range d.Tail {
		tellSymbols(tail, told)
	}
}

// renamed is a template in which there are new aliases for all symbols that are not to be filled.
func (x *expander) renamed(template api.Datum, binds []match.Bind, where *scope) api.Datum {
	steads := map[string]api.Datum{dots: datum.Symbol(dots)}
	for _, b := range binds {
		steads[b.Name] = datum.Symbol(b.Name)
	}
	return withSymbols(template, func(name string) api.Datum {
		stead, ok := steads[name]
		if !ok {
			stead = datum.Symbol(x.newAlias(name, where))
			steads[name] = stead
		}
		return stead
	})
}
