package opt

import (
	"iter"
	"slices"

	"pavane/api"
	"pavane/core"
	"pavane/rule"
)

// mostVariable is the greatest number that a variable may have.
const mostVariable = 1000000

// try is a rule that is looked for in expressions of one Kind, from the N-th on.
type try struct {
	rule, of, n int
	no          bool
}

// tries are in the order in which they are made.
var tries = [...]try{
	{rule: rule.Fold, of: api.ExPrim},
	{rule: rule.Branch, of: api.ExIf},
	{rule: rule.Not, of: api.ExIf},
	{rule: rule.Beta, of: api.ExCall},
	{rule: rule.Copy, of: api.ExLet},
	{rule: rule.Drop, of: api.ExSeq},
	{rule: rule.Unused, of: api.ExLet},
	{rule: rule.Float, of: api.ExLet},
	{rule: rule.Ahead, of: api.ExLet},
	{rule: rule.Lift, of: api.ExPrim, n: 1},
	{rule: rule.Lift, of: api.ExCall, n: 1},
	{rule: rule.Inline, of: api.ExLet, n: 1},
	{rule: rule.Again, of: api.ExLet, n: 1},
	{rule: rule.Known, of: api.ExIf, n: 1},
	{rule: rule.Known, of: api.ExIf, n: 1, no: true},
}

// last is the greatest N that is tried of x.
func (t try) last(x *api.Expr) int {
	if t.rule == rule.Lift {
		return len(x.Kids)
	}
	return t.n
}

// next is the step to be done next of e, which is May, and what it makes.
func next(e api.Expr) (rule.Step, api.Expr, bool) {
	l := looked(e)
	for path, x := range places(&e) {
		for s := range l.steps(x) {
			if _, ok := rule.Here(*x, s, l.above); !ok {
				continue
			}
			s.Path = slices.Clone(path)
			if made, err := rule.Apply(e, s); err == api.OK {
				return s, made, true
			}
		}
	}
	return rule.Step{}, api.Expr{}, false
}

// places tells e, and all expressions in it, outer ones first and from the left, each with its path, which is written over behind it.
func places(e *api.Expr) iter.Seq2[[]int, *api.Expr] {
	return func(yield func([]int, *api.Expr) bool) {
		var tell func(x *api.Expr, path []int) bool
		tell = func(x *api.Expr, path []int) bool {
			if !yield(path, x) {
				return false
			}
			for i := range x.Kids {
				if !tell(&x.Kids[i], append(path, i)) {
					return false
				}
			}
			return true
		}
		tell(e, nil)
	}
}

// look is what is known of all of an expression. Without it, rules that ask for something within an expression would go through it in vain in most places, and Apply through all of it.
type look struct {
	// uses are those of each variable in all of it: no variable is bound twice in what is May, and none is free.
	uses map[int]use
	// tests is of how many ExIf a variable is the first.
	tests map[int]int
	// shorts is how often there is a primitive of nothing but what is Simple, by its text.
	shorts map[string]int
	size   int
	// above is the number above all variables.
	above int
}

func looked(e api.Expr) look {
	l := look{uses: map[int]use{}, tests: map[int]int{}, shorts: map[string]int{}}
	for _, x := range places(&e) {
		l.size++
		if x.Kind == api.ExVar {
			l.add(x.V, use{all: 1})
		}
		if v, ok := calls(x); ok {
			l.add(v, use{called: 1})
		}
		if x.Kind == api.ExIf && x.Kids[0].Kind == api.ExVar {
			l.tests[x.Kids[0].V]++
		}
		if isShort(x) {
			l.shorts[core.Write(*x)]++
		}
	}
	l.above = 1 + slices.Max(append(core.Bound(e), 0))
	return l
}

func isShort(x *api.Expr) bool {
	return x.Kind == api.ExPrim && !slices.ContainsFunc(x.Kids, func(e api.Expr) bool { return !rule.Simple(e) })
}

func (l *look) add(v int, more use) {
	u := l.uses[v]
	l.uses[v] = use{all: u.all + more.all, called: u.called + more.called}
}

// steps tells those that are to be tried of x, in order, without their path.
func (l *look) steps(x *api.Expr) iter.Seq[rule.Step] {
	return func(yield func(rule.Step) bool) {
		for _, t := range tries {
			if t.of != x.Kind || !l.isWorth(t.rule, x) {
				continue
			}
			for n := t.n; n <= t.last(x); n++ {
				if !yield(rule.Step{Rule: t.rule, N: n, No: t.no}) {
					return
				}
			}
		}
	}
}

// isWorth: false where the rule is not to be used, and where it is known that Here or Apply would say no.
func (l *look) isWorth(r int, x *api.Expr) bool {
	switch r {
	case rule.Beta:
		// The call and the lambda go, and there is a let for each of the others.
		return l.hasRoom(len(x.Kids) - 3)
	case rule.Unused:
		return l.uses[x.V].all == 0
	case rule.Inline:
		return l.uses[x.V] == use{all: 1, called: 1} && l.mayStandTwice(x.Kids[0])
	case rule.Again:
		return isShort(&x.Kids[0]) && l.shorts[core.Write(x.Kids[0])] > 1
	case rule.Known:
		return l.tests[x.Kids[0].V] > 1
	}
	return true
}

// hasRoom: so many more expressions are not too many.
func (l *look) hasRoom(more int) bool {
	return l.size+more <= api.MaxItems
}

// mayStandTwice: there is room for the lambda once more, in place of a variable, and there are numbers for what is bound in it.
func (l *look) mayStandTwice(lambda api.Expr) bool {
	return l.hasRoom(core.Size(lambda)-1) && l.above+len(core.Bound(lambda))-1 <= mostVariable
}
