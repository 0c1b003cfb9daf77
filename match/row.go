package match

import "pavane/api"

// mostRounds are more than there are Trees in what the document's bound lets be handed in: 2^31 - 1 bytes, of which a Tree has a hundred or more. Where Kids hold one another there may be more, without an end.
const mostRounds = 20000000

// row is an item of a template that has ... behind it, and what it is filled into.
type row struct {
	*filler
	item   api.Datum
	out    []api.Datum
	rounds int
}

// fill fills the item once for each of the Kids of those of names that are Many, marks times in one another.
func (r *row) fill(names []string, marks int) api.Errno {
	if marks == 0 {
		d, err := r.filler.fill(r.item, false)
		r.out = append(r.out, d)
		return err
	}
	// Who is not Many here is not Many in any round.
	names, trees := r.many(names)
	if !areAsMany(trees) {
		return api.ErrSyntax
	}
	for i := range trees[0].Kids {
		r.rounds++
		if r.rounds > mostRounds {
			return api.ErrLong
		}
		for j, name := range names {
			r.trees[name] = &trees[j].Kids[i]
		}
		if err := r.fill(names, marks-1); err != api.OK {
			return err
		}
	}
	for j, name := range names {
		r.trees[name] = trees[j]
	}
	return api.OK
}

// many are those of names that are Many, and their trees.
func (r *row) many(names []string) ([]string, []*Tree) {
	var out []string
	var trees []*Tree
	for _, name := range names {
		if tree := r.trees[name]; tree.Many {
			out = append(out, name)
			trees = append(trees, tree)
		}
	}
	return out, trees
}

// areAsMany: there is a tree, and each has as many Kids as the first.
func areAsMany(trees []*Tree) bool {
	for _, tree := range trees {
		if len(tree.Kids) != len(trees[0].Kids) {
			return false
		}
	}
	return len(trees) > 0
}

// names are the variables of an item, from the left, of each once.
func (f *filler) names(item api.Datum) []string {
	var out []string
	places := map[string]int{}
	f.tell(item, false, func(name string) {
		places[name]++
		if places[name] == 1 {
			out = append(out, name)
		}
	})
	return out
}

// tell tells each place of a variable in t.
func (f *filler) tell(t api.Datum, plain bool, told func(string)) {
	switch {
	case f.tree(t, plain) != nil:
		told(t.S)
	case !plain && isPlainList(t):
		f.tell(t.Items[1], true, told)
	default:
		for _, item := range t.Items {
			f.tell(item, plain, told)
		}
		for _, tail := range t.Tail {
			f.tell(tail, plain, told)
		}
	}
}
