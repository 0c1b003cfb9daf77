package prim

import (
	"slices"
	"testing"

	"pavane/api"
)

const mark = 0xdecade

// behind is a copy of l with room behind its end, in which marks stand.
func behind[T any](l []T, mark T) []T {
	out := append(slices.Clone(l), mark, mark, mark)
	return out[:len(l):len(out)]
}

// roomy is a copy of d with marks in the room behind all its lists.
func roomy(d api.Datum) api.Datum {
	d.I.L = behind(d.I.L, mark)
	for _, l := range []*[]api.Datum{&d.Items, &d.Tail} {
		var made []api.Datum
		for _, x := range *l {
			made = append(made, roomy(x))
		}
		*l = behind(made, sym("mark"))
	}
	return d
}

// isMarked: the marks behind all lists of d are still there.
func isMarked(d api.Datum) bool {
	for _, limb := range d.I.L[len(d.I.L):cap(d.I.L)] {
		if limb != mark {
			return false
		}
	}
	for _, l := range [][]api.Datum{d.Items, d.Tail} {
		for _, x := range l {
			if !isMarked(x) {
				return false
			}
		}
		for _, x := range l[len(l):cap(l)] {
			if !exactly(x, sym("mark")) {
				return false
			}
		}
	}
	return true
}

// scribble writes into all limbs of d, and into the room behind them.
func scribble(d api.Datum) {
	limbs := d.I.L[:cap(d.I.L)]
	for i := range limbs {
		limbs[i] ^= top
	}
}

// samples are data that end, Good or not.
func samples() []api.Datum {
	return slices.DeleteFunc(append(goods(), bads()...), func(d api.Datum) bool { return isEndless(d.Items) || isEndless(d.Tail) })
}

// isEndless: l is what its first one's Items are.
func isEndless(l []api.Datum) bool {
	return len(l) > 0 && len(l[0].Items) > 0 && &l[0] == &l[0].Items[0]
}

// What is handed in is as it was, and so is the room behind it; what is told shares nothing with it.
func TestMemory(t *testing.T) {
	for _, p := range plains() {
		for _, l := range rows(samples(), arity(p)) {
			given := make([]api.Datum, len(l))
			for i, d := range l {
				given[i] = roomy(d)
			}
			given = behind(given, sym("mark"))
			got, _ := Do(p, given)
			want, _ := Do(p, l)
			if !exactly(got, want) {
				t.Fatalf("Do(%d, %s) hangs on the room behind lists: %s, %s", p, briefs(l), brief(got), brief(want))
			}
			scribble(got)
			if !slices.EqualFunc(given, l, exactly) || !isMarked(list(given...)) {
				t.Fatalf("Do(%d, %s) changes what it is given, or shares it", p, briefs(l))
			}
			for _, d := range given {
				scribble(d)
			}
			if again, _ := Do(p, l); !exactly(again, want) {
				t.Fatalf("Do(%d, %s) hangs on what is done behind a call", p, briefs(l))
			}
		}
	}
}

// Numbers that stay as they are are new memory too.
func TestNumbersAreNew(t *testing.T) {
	for _, c := range []struct{ p, other int }{{api.PAdd, 0}, {api.PSub, 0}, {api.PMul, 1}, {api.PQuo, 1}, {api.PRem, 1 << 62}, {api.PMod, 1 << 62}} {
		for _, d := range []api.Datum{of(5), num(false, 5, 0), of(1 << 40)} {
			given := roomy(d)
			got, err := Do(c.p, []api.Datum{given, of(int64(c.other))})
			scribble(got)
			if err != api.OK || !exactly(given, d) || !isMarked(given) {
				t.Errorf("Do(%d, %s %d) shares memory, or is %v", c.p, brief(d), c.other, err)
			}
			again, _ := Do(c.p, []api.Datum{d, of(int64(c.other))})
			if bigOf(again).Cmp(bigOf(d)) != 0 {
				t.Errorf("Do(%d, %s %d): %s", c.p, brief(d), c.other, brief(again))
			}
		}
	}
}

// The other calls leave what they are given, too.
func TestAskingChangesNothing(t *testing.T) {
	for _, a := range samples() {
		for _, b := range samples() {
			x, y := roomy(a), roomy(b)
			Eq(x, y)
			Eq(x, x)
			True(x)
			if !exactly(x, a) || !exactly(y, b) || !isMarked(x) || !isMarked(y) {
				t.Fatalf("Eq or True changes %s or %s", brief(a), brief(b))
			}
		}
	}
}
