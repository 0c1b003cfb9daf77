package match

import (
	"iter"

	"pavane/api"
	"pavane/datum"
)

const (
	// dots stand behind what may be there any number of times.
	dots = "..."
	// blank is where any datum may stand, and is not told.
	blank = "_"
)

// Check: what is wrong with the pattern p.
func Check(p api.Datum, likes []Like) api.Errno {
	return literalsOf(likes).check(p)
}

// Names: the variables of p, from the left, of each once.
func Names(p api.Datum, likes []Like) []string {
	if !datum.Good(p) {
		return nil
	}
	return literalsOf(likes).names(p)
}

// Depth: in how many items that have ... behind them the first place of that variable of p stands; -1 if it has none.
func Depth(p api.Datum, name string, likes []Like) int {
	if !datum.Good(p) {
		return -1
	}
	for variable, around := range literalsOf(likes).variables(p) {
		if variable == name {
			return around
		}
	}
	return -1
}

// literals are likes by their Name; a pattern's symbols mean what they do beside these.
type literals map[string]Like

func literalsOf(likes []Like) literals {
	out := literals{}
	for _, like := range likes {
		if !out.has(like.Name) {
			out[like.Name] = like
		}
	}
	return out
}

func (l literals) has(name string) bool {
	_, ok := l[name]
	return ok
}

// isMark: d is the symbol ..., and no literal.
func (l literals) isMark(d api.Datum) bool {
	return isDots(d) && !l.has(dots)
}

func (l literals) isVariable(name string) bool {
	return name != dots && name != blank && !l.has(name)
}

func isDots(d api.Datum) bool {
	return d.Kind == api.Sym && d.S == dots
}

func (l literals) check(p api.Datum) api.Errno {
	switch {
	case !datum.Good(p):
		return api.ErrLong
	case l.isMark(p) || !l.marksMayStand(p) || l.isVariableTwice(p):
		return api.ErrSyntax
	}
	return api.OK
}

// marksMayStand: in each list in p there is at most one mark, and ahead of it an item.
func (l literals) marksMayStand(p api.Datum) bool {
	marks := 0
	for i, item := range p.Items {
		if l.isMark(item) {
			marks++
		}
		if i == 0 && marks == 1 || marks > 1 || !l.marksMayStand(item) {
			return false
		}
	}
	// A Tail is no list: there is nothing to be looked at inside.
	return len(p.Tail) == 0 || !l.isMark(p.Tail[0])
}

func (l literals) isVariableTwice(p api.Datum) bool {
	places := 0
	for range l.variables(p) {
		places++
	}
	return places > len(l.names(p))
}

func (l literals) names(p api.Datum) []string {
	var out []string
	places := map[string]int{}
	for name := range l.variables(p) {
		places[name]++
		if places[name] == 1 {
			out = append(out, name)
		}
	}
	return out
}

// variables tells each place of a variable in p, from the left, with in how many items that have ... behind them it stands.
func (l literals) variables(p api.Datum) iter.Seq2[string, int] {
	return func(yield func(string, int) bool) {
		l.tell(p, 0, yield)
	}
}

// tell is variables, of a part of p with so many such items around it; false if no more is asked for.
func (l literals) tell(p api.Datum, around int, yield func(string, int) bool) bool {
	if p.Kind == api.Sym && l.isVariable(p.S) {
		return yield(p.S, around)
	}
	for i, item := range p.Items {
		inside := around
		if i+1 < len(p.Items) && l.isMark(p.Items[i+1]) {
			inside++
		}
		if !l.tell(item, inside, yield) {
			return false
		}
	}
	return len(p.Tail) == 0 || l.tell(p.Tail[0], around, yield)
}
