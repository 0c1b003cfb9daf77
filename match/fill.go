package match

import (
	"pavane/api"
	"pavane/datum"
)

// mostCounted is how many data are too many for one more to be begun.
const mostCounted = 5000

// Fill: the template t with what its variables stand for by binds.
func Fill(t api.Datum, binds []Bind) (api.Datum, api.Errno) {
	if !datum.Good(t) {
		return api.Datum{}, api.ErrLong
	}
	f := filler{trees: map[string]*Tree{}}
	for i := range binds {
		if f.trees[binds[i].Name] == nil {
			f.trees[binds[i].Name] = &binds[i].T
		}
	}
	d, err := f.fill(t, false)
	if err == api.OK && (f.isLong || datum.Size(d) > api.MaxItems || datum.Depth(d) > api.MaxDeep) {
		err = api.ErrLong
	}
	if err != api.OK {
		return api.Datum{}, err
	}
	return d, api.OK
}

// filler fills a template from the left on.
type filler struct {
	// trees are what each variable stands for: within an item that has ... behind it, one of the Kids.
	trees   map[string]*Tree
	counted int
	// isLong: something was so long that it was left out; that is told behind all else.
	isLong bool
}

// fill begins t, a datum of the template; plain if ... is a symbol as others in it.
func (f *filler) fill(t api.Datum, plain bool) (api.Datum, api.Errno) {
	if f.counted >= mostCounted {
		return api.Datum{}, api.ErrLong
	}
	if tree := f.tree(t, plain); tree != nil {
		return f.standIn(tree)
	}
	f.counted++
	switch {
	case t.Kind == api.List:
		return f.list(t, plain)
	case isDots(t) && !plain:
		return api.Datum{}, api.ErrSyntax
	}
	return datum.Copy(t), api.OK
}

// tree is what t stands for, if it is a variable; else nil.
func (f *filler) tree(t api.Datum, plain bool) *Tree {
	if t.Kind != api.Sym || isDots(t) && !plain {
		return nil
	}
	return f.trees[t.S]
}

// standIn is what stands for a variable.
func (f *filler) standIn(tree *Tree) (api.Datum, api.Errno) {
	if tree.Many {
		return api.Datum{}, api.ErrSyntax
	}
	f.counted += datum.Size(tree.D)
	if !f.isLookedAt(tree.D) {
		return api.Datum{}, api.OK
	}
	return datum.Copy(tree.D), api.OK
}

// isLookedAt: d is not beyond what package datum looks at, where a copy or a Norm would be Nothing; if it is, all of what is filled is too long.
func (f *filler) isLookedAt(d api.Datum) bool {
	ok := datum.Depth(d) > 0
	f.isLong = f.isLong || !ok
	return ok
}

func (f *filler) list(t api.Datum, plain bool) (api.Datum, api.Errno) {
	if !plain && len(t.Items) > 0 && isDots(t.Items[0]) {
		if !isPlainList(t) {
			return api.Datum{}, api.ErrSyntax
		}
		return f.fill(t.Items[1], true)
	}
	items, err := f.items(t.Items, plain)
	if err != api.OK {
		return api.Datum{}, err
	}
	out := api.Datum{Kind: api.List, Items: items}
	if len(t.Tail) == 0 {
		return out, api.OK
	}
	tail, err := f.fill(t.Tail[0], plain)
	if err != api.OK {
		return api.Datum{}, err
	}
	out.Tail = []api.Datum{tail}
	if !f.isLookedAt(out) {
		return api.Datum{}, api.OK
	}
	return datum.Norm(out), api.OK
}

// isPlainList: t is a list of ... and one more, in which ... is a symbol as others.
func isPlainList(t api.Datum) bool {
	return len(t.Items) == 2 && len(t.Tail) == 0 && isDots(t.Items[0])
}

// items fills a list's items, each with the ... behind it.
func (f *filler) items(items []api.Datum, plain bool) ([]api.Datum, api.Errno) {
	var out []api.Datum
	for i := 0; i < len(items); i++ {
		item, marks := items[i], 0
		if !plain {
			marks = marksAhead(items[i+1:])
		}
		if marks > 0 {
			r := row{filler: f, item: item, out: out}
			if err := r.fill(f.names(item), marks); err != api.OK {
				return nil, err
			}
			out = r.out
			i += marks
			continue
		}
		d, err := f.fill(item, plain)
		if err != api.OK {
			return nil, err
		}
		out = append(out, d)
	}
	return out, api.OK
}

// marksAhead is how many ... stand at the begin of items.
func marksAhead(items []api.Datum) int {
	for i, item := range items {
		if !isDots(item) {
			return i
		}
	}
	return len(items)
}
