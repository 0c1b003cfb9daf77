package match

import (
	"slices"
	"strings"
	"testing"

	"pavane/api"
	"pavane/write"
)

// allData are all data of these atoms, and of lists, with so many data at most.
func allData(most int, atoms ...api.Datum) []api.Datum {
	bySize := [][]api.Datum{nil, append(slices.Clone(atoms), list())}
	for size := 2; size <= most; size++ {
		var out []api.Datum
		for _, items := range allItems(size-1, bySize) {
			out = append(out, list(items...))
		}
		for _, items := range allItems(size-2, bySize) {
			for _, tail := range atoms {
				if len(items) > 0 {
					out = append(out, dotted(list(items...), tail))
				}
			}
		}
		bySize = append(bySize, out)
	}
	return slices.Concat(bySize...)
}

// allItems are all lists of data that have so many data together.
func allItems(size int, bySize [][]api.Datum) [][]api.Datum {
	if size == 0 {
		return [][]api.Datum{nil}
	}
	var out [][]api.Datum
	for first := 1; first <= size; first++ {
		for _, rest := range allItems(size-first, bySize) {
			for _, x := range bySize[first] {
				out = append(out, append([]api.Datum{x}, rest...))
			}
		}
	}
	return out
}

// tokens are the parts of a written datum: parentheses, dots and atoms.
func tokens(d api.Datum) []string {
	s := strings.ReplaceAll(write.Write(d), "(", " ( ")
	return strings.Fields(strings.ReplaceAll(s, ")", " ) "))
}

func isVariableToken(s string) bool { return s == "a" || s == "b" }

// behindToken is the place behind the datum that begins at a token.
func behindToken(l []string, at int) int {
	open := 0
	for i := at; ; i++ {
		switch l[i] {
		case "(":
			open++
		case ")":
			open--
		}
		if open == 0 {
			return i + 1
		}
	}
}

// checkByTokens is Check, by the text of the pattern.
func checkByTokens(l []string) api.Errno {
	if l[0] == "..." {
		return api.ErrSyntax
	}
	seen := map[string]int{}
	marks := []int{0}
	for i, s := range l {
		switch {
		case s == "(":
			marks = append(marks, 0)
		case s == ")":
			marks = marks[:len(marks)-1]
		case s == "...":
			marks[len(marks)-1]++
			if l[i-1] == "(" || l[i-1] == "." || marks[len(marks)-1] > 1 {
				return api.ErrSyntax
			}
		case isVariableToken(s):
			seen[s]++
			if seen[s] > 1 {
				return api.ErrSyntax
			}
		}
	}
	return api.OK
}

// depthByTokens is Depth, from the inside on.
func depthByTokens(l []string, name string) int {
	at := slices.Index(l, name)
	if at < 0 {
		return -1
	}
	around := 0
	for {
		end := behindToken(l, at)
		if end < len(l) && l[end] == "..." && l[max(at-1, 0)] != "." {
			around++
		}
		open := 0
		for at--; at >= 0 && (l[at] != "(" || open > 0); at-- {
			switch l[at] {
			case ")":
				open++
			case "(":
				open--
			}
		}
		if at < 0 {
			return around
		}
	}
}

// rows are what patterns match, by trying for each ... all numbers of data.
type rows struct {
	likes map[string]string
}

// all tells what a and b may stand for where p matches d, in a list: of each way one, as it is shown.
func (r rows) all(p, d api.Datum) []map[string]string {
	switch {
	case p.Kind == api.List && d.Kind == api.List:
		tail := list()
		if len(d.Tail) > 0 {
			tail = d.Tail[0]
		}
		return r.lists(p.Items, p, d.Items, tail)
	case p.Kind == api.Sym && isVariableToken(p.S):
		return []map[string]string{{p.S: write.Write(d)}}
	case p.Kind == api.Sym && p.S == "_", p.Kind == api.Sym && d.Kind == api.Sym && r.likes[p.S] == d.S, p.Kind != api.List && p.Kind != api.Sym && exactly(p, d):
		return []map[string]string{{}}
	}
	return nil
}

// lists is all, of what is left of a pattern whole and of a list.
func (r rows) lists(p []api.Datum, whole api.Datum, d []api.Datum, tail api.Datum) []map[string]string {
	hasMark := slices.ContainsFunc(whole.Items, isDotsSymbol)
	if len(p) == 0 {
		left := tail
		if len(d) > 0 {
			left = list(d...)
			if tail.Kind != api.List {
				left = dotted(left, tail)
			}
		}
		switch {
		case len(whole.Tail) == 0:
			if exactly(left, list()) {
				return []map[string]string{{}}
			}
			return nil
		case hasMark && len(d) > 0:
			return nil
		}
		return r.all(whole.Tail[0], left)
	}
	if len(p) > 1 && isDotsSymbol(p[1]) {
		var out []map[string]string
		for n := range len(d) + 1 {
			first := r.repeated(p[0], d[:n])
			out = append(out, joined(first, r.lists(p[2:], whole, d[n:], tail))...)
		}
		return out
	}
	if len(d) == 0 {
		return nil
	}
	return joined(r.all(p[0], d[0]), r.lists(p[1:], whole, d[1:], tail))
}

func isDotsSymbol(d api.Datum) bool { return d.Kind == api.Sym && d.S == "..." }

// repeated is what p stands for of all these data: each must match it.
func (r rows) repeated(p api.Datum, d []api.Datum) []map[string]string {
	kids := map[string][]string{}
	for _, s := range tokens(p) {
		if isVariableToken(s) {
			kids[s] = nil
		}
	}
	for _, x := range d {
		ways := r.all(p, x)
		if len(ways) == 0 {
			return nil
		}
		for name := range kids {
			kids[name] = append(kids[name], ways[0][name])
		}
	}
	out := map[string]string{}
	for name, l := range kids {
		out[name] = "[" + strings.Join(l, " ") + "]"
	}
	return []map[string]string{out}
}

func joined(a, b []map[string]string) []map[string]string {
	var out []map[string]string
	for _, x := range a {
		for _, y := range b {
			both := map[string]string{}
			for _, m := range []map[string]string{x, y} {
				for name, s := range m {
					both[name] = s
				}
			}
			out = append(out, both)
		}
	}
	return out
}

func sweepPatterns(most int) []api.Datum {
	return allData(most, sym("a"), sym("b"), sym("..."), sym("_"), sym("l"), num(1))
}

// All short patterns are held against their texts.
func TestSweepPatterns(t *testing.T) {
	likes := []Like{{"l", []string{"x"}}}
	for _, p := range sweepPatterns(6) {
		l := tokens(p)
		if got, want := Check(p, likes), checkByTokens(l); got != want {
			t.Errorf("Check(%s): %v, want %v", write.Write(p), got, want)
		}
		names := slices.DeleteFunc(slices.Clone(l), func(s string) bool { return !isVariableToken(s) })
		if len(names) > 0 {
			other := slices.DeleteFunc(slices.Clone(names), func(s string) bool { return s == names[0] })
			names = append(names[:1:1], other[:min(len(other), 1)]...)
		}
		if got := Names(p, likes); !slices.Equal(got, names) {
			t.Errorf("Names(%s): %q, want %q", write.Write(p), got, names)
		}
		for _, name := range []string{"a", "b", "x"} {
			if got, want := Depth(p, name, likes), depthByTokens(l, name); got != want {
				t.Errorf("Depth(%s, %s): %d, want %d", write.Write(p), name, got, want)
			}
		}
	}
}

// isToldWhereMany: each item with ... behind it has a variable: of another one nothing tells how often it was there.
func isToldWhereMany(p api.Datum) bool {
	for i, item := range p.Items {
		isMany := i+1 < len(p.Items) && isDotsSymbol(p.Items[i+1])
		if isMany && !slices.ContainsFunc(tokens(item), isVariableToken) || !isToldWhereMany(item) {
			return false
		}
	}
	return true
}

// All short patterns are held against all short data; and where one matches, Fill of it is that datum again.
func TestSweepMatches(t *testing.T) {
	likes := []Like{{"l", []string{"x"}}}
	oracle := rows{map[string]string{"l": "x"}}
	data := allData(4, num(1), sym("x"), sym("l"))
	count := 0
	for _, p := range sweepPatterns(5) {
		if Check(p, likes) != api.OK {
			continue
		}
		isBack := !slices.Contains(tokens(p), "_") && !slices.Contains(tokens(p), "l") && isToldWhereMany(p)
		for _, d := range data {
			ways := oracle.all(p, d)
			if len(ways) > 1 {
				t.Fatalf("%s matches %s in %d ways", write.Write(p), write.Write(d), len(ways))
			}
			binds, ok := Match(p, d, likes)
			if ok != (len(ways) == 1) {
				t.Fatalf("Match(%s, %s): %t", write.Write(p), write.Write(d), ok)
			}
			if !ok {
				continue
			}
			count++
			for _, b := range binds {
				if shownTree(b.T) != ways[0][b.Name] {
					t.Errorf("Match(%s, %s): %s, want %v", write.Write(p), write.Write(d), shownBinds(binds), ways[0])
				}
			}
			if len(binds) != len(ways[0]) {
				t.Errorf("Match(%s, %s): %s, want %v", write.Write(p), write.Write(d), shownBinds(binds), ways[0])
			}
			if isBack {
				checkFilled(t, p, binds, d)
			}
		}
	}
	if count < 10000 {
		t.Errorf("only %d match", count)
	}
}
