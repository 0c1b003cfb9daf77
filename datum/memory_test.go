package datum

import (
	"slices"
	"testing"

	"pavane/api"
)

// scribble writes into all lists of d, from the inside on, and into the room behind them.
func scribble(d api.Datum) {
	for _, l := range [][]api.Datum{d.Items, d.Tail} {
		for _, x := range l {
			scribble(x)
		}
		l = l[:cap(l)]
		for i := range l {
			l[i] = api.Datum{Kind: 99, S: "scribbled"}
		}
	}
	limbs := d.I.L[:cap(d.I.L)]
	for i := range limbs {
		limbs[i] ^= top
	}
}

// roomy is a copy of d with marks in the room behind all its lists.
func roomy(d api.Datum) api.Datum {
	d.I.L = behind(d.I.L, 0xdecade)
	for _, l := range []*[]api.Datum{&d.Items, &d.Tail} {
		var made []api.Datum
		for _, x := range *l {
			made = append(made, roomy(x))
		}
		*l = behind(made, sym("mark"))
	}
	return d
}

// behind is a copy of l with room behind its end, in which marks stand.
func behind[T any](l []T, mark T) []T {
	out := append(slices.Clone(l), mark, mark, mark)
	return out[:len(l):len(out)]
}

// marked: the marks behind all lists of d are still there.
func marked(d api.Datum) bool {
	for _, limb := range d.I.L[len(d.I.L):cap(d.I.L)] {
		if limb != 0xdecade {
			return false
		}
	}
	for _, l := range [][]api.Datum{d.Items, d.Tail} {
		for _, x := range l {
			if !marked(x) {
				return false
			}
		}
		for _, x := range l[len(l):cap(l)] {
			if !exactly(x, sym("mark")) {
				return false
			}
		}
	}
	return true
}

// calls are all that take data, each with the data that it answers.
func calls() map[string]func(a, b api.Datum) []api.Datum {
	one := func(d api.Datum) []api.Datum { return []api.Datum{d} }
	return map[string]func(a, b api.Datum) []api.Datum{
		"Good":  func(a, b api.Datum) []api.Datum { Good(a); return nil },
		"Norm":  func(a, b api.Datum) []api.Datum { return one(Norm(a)) },
		"Same":  func(a, b api.Datum) []api.Datum { Same(a, b); Same(a, a); return nil },
		"Items": func(a, b api.Datum) []api.Datum { return one(Items(a, b, a)) },
		"Pair":  func(a, b api.Datum) []api.Datum { return one(Pair(a, b)) },
		"Split": func(a, b api.Datum) []api.Datum { x, y, _ := Split(a); return []api.Datum{x, y} },
		"Walk":  func(a, b api.Datum) []api.Datum { return slices.Collect(Walk(a)) },
		"Size":  func(a, b api.Datum) []api.Datum { Size(a); return nil },
		"Depth": func(a, b api.Datum) []api.Datum { Depth(a); return nil },
		"Copy":  func(a, b api.Datum) []api.Datum { return one(Copy(a)) },
	}
}

// smalls are samples that are soon gone through, some lists in them.
func smalls() []api.Datum {
	out := slices.Concat(goods(), bads())
	return append(out, list(every(api.List), dotted(list(every(api.Num), every(api.Num)), every(api.List))))
}

func TestArgumentsAreLeft(t *testing.T) {
	for name, call := range calls() {
		for i, a := range smalls() {
			for _, b := range []api.Datum{sym("b"), list(num(true, 5, 0)), every(api.List)} {
				x, y := roomy(a), roomy(b)
				call(x, y)
				if !exactly(x, a) || !exactly(y, b) || !marked(x) || !marked(y) {
					t.Errorf("%s of datum %d changes what it is given: %v, %v", name, i, x, y)
				}
			}
		}
	}
}

// What is written into an answer, and into its spare room, is seen neither in an argument nor in another answer, nor elsewhere in itself.
func TestAnswersAreNew(t *testing.T) {
	for name, call := range calls() {
		for i, a := range smalls() {
			x, y := roomy(a), roomy(every(api.List))
			answers, want := call(x, y), call(x, y)
			for j := range answers {
				if !exactly(answers[j], want[j]) {
					t.Errorf("%s of datum %d: answer %d is changed by one ahead of it", name, i, j)
				}
				if fault := apart(answers[j]); fault != "" {
					t.Errorf("%s of datum %d: answer %d: %s", name, i, j, fault)
				}
				scribble(answers[j])
			}
			if !exactly(x, a) || !exactly(y, every(api.List)) || !marked(x) || !marked(y) {
				t.Errorf("%s of datum %d: an answer shares memory with an argument", name, i)
			}
		}
	}
}

// apart says which kind of lists of d share memory, the room behind them too; "" if none do.
func apart(d api.Datum) string {
	data, limbs := map[*api.Datum]int{}, map[*uint32]int{}
	var look func(d api.Datum) string
	look = func(d api.Datum) string {
		for i := range d.I.L[:cap(d.I.L)] {
			limb := &d.I.L[:cap(d.I.L)][i]
			limbs[limb]++
			if limbs[limb] > 1 {
				return "two lists of limbs share memory"
			}
		}
		for _, l := range [][]api.Datum{d.Items, d.Tail} {
			for i := range l[:cap(l)] {
				place := &l[:cap(l)][i]
				data[place]++
				if data[place] > 1 {
					return "two lists of data share memory"
				}
			}
			for _, x := range l {
				if s := look(x); s != "" {
					return s
				}
			}
		}
		return ""
	}
	return look(d)
}

// A list that is handed in twice is two lists in the answer.
func TestSharedArgumentsComeApart(t *testing.T) {
	part := list(num(false, 1), list(num(false, 2)))
	shared := dotted(list(part, part), part)
	first, rest, _ := Split(shared)
	for i, d := range []api.Datum{Copy(shared), Norm(shared), Items(part, part), Pair(part, part), Pair(shared, shared), list(first, rest)} {
		if s := apart(d); s != "" {
			t.Errorf("answer %d: %s", i, s)
		}
	}
}

func TestAnswersAreNotKept(t *testing.T) {
	ask := []func() api.Datum{
		func() api.Datum { return Number(5) },
		func() api.Datum { return Items(Number(5), Items()) },
		func() api.Datum { return Pair(Number(5), Number(6)) },
		func() api.Datum { return Norm(every(api.List)) },
		func() api.Datum { return Copy(every(api.List)) },
		func() api.Datum { _, d, _ := Split(every(api.List)); return d },
	}
	for i, call := range ask {
		first, want := call(), call()
		scribble(call())
		if third := call(); !exactly(first, want) || !exactly(third, want) {
			t.Errorf("question %d: two answers share memory", i)
		}
	}
}
