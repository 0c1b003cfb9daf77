package whole

import (
	"slices"
	"testing"

	"pavane/api"
)

const mark = 0xdecade

// roomy is a copy of a with marks in the room behind its limbs.
func roomy(a api.Int) api.Int {
	out := append(slices.Clone(a.L), mark, mark, mark, mark)
	return api.Int{Neg: a.Neg, L: out[:len(a.L):len(out)]}
}

// room is a number's limbs and the room behind them.
func room(a api.Int) []uint32 { return a.L[:cap(a.L)] }

// calls are all that take numbers, each with the numbers that it answers.
func calls() map[string]func(a, b api.Int) []api.Int {
	one := func(a api.Int) []api.Int { return []api.Int{a} }
	return map[string]func(a, b api.Int) []api.Int{
		"Good":  func(a, b api.Int) []api.Int { Good(a); return nil },
		"Norm":  func(a, b api.Int) []api.Int { return one(Norm(a)) },
		"Small": func(a, b api.Int) []api.Int { Small(a); return nil },
		"Cmp":   func(a, b api.Int) []api.Int { Cmp(a, b); return nil },
		"Neg":   func(a, b api.Int) []api.Int { return one(Neg(a)) },
		"Add":   func(a, b api.Int) []api.Int { return one(Add(a, b)) },
		"Sub":   func(a, b api.Int) []api.Int { return one(Sub(a, b)) },
		"Mul":   func(a, b api.Int) []api.Int { return one(Mul(a, b)) },
		"Quo":   func(a, b api.Int) []api.Int { q, r, _ := Quo(a, b); return []api.Int{q, r} },
		"Floor": func(a, b api.Int) []api.Int { q, r, _ := Floor(a, b); return []api.Int{q, r} },
		"Gcd":   func(a, b api.Int) []api.Int { return one(Gcd(a, b)) },
		"Root":  func(a, b api.Int) []api.Int { r, left, _ := Root(a); return []api.Int{r, left} },
		"Text":  func(a, b api.Int) []api.Int { Text(a); return nil },
	}
}

func TestArgumentsAreLeft(t *testing.T) {
	for name, call := range calls() {
		for _, a := range samples() {
			for _, b := range edges() {
				x, y := roomy(a), roomy(b)
				keptX, keptY := slices.Clone(room(x)), slices.Clone(room(y))
				call(x, y)
				if !slices.Equal(room(x), keptX) || !slices.Equal(room(y), keptY) {
					t.Fatalf("%s of %v and %v changes what it is given", name, a, b)
				}
			}
		}
	}
}

// What is written into an answer and into its spare room is seen nowhere else.
func TestAnswersAreNew(t *testing.T) {
	for name, call := range calls() {
		for _, a := range samples() {
			for _, b := range edges() {
				x, y := roomy(a), roomy(b)
				numbers := append(call(x, y), x, y)
				for i := range numbers {
					if touches(numbers, i) {
						t.Fatalf("%s of %v and %v: number %d shares memory", name, a, b, i)
					}
				}
			}
		}
	}
}

// touches: a change to the i-th number's limbs, and the room behind them, is seen in another.
func touches(numbers []api.Int, i int) bool {
	var kept [][]uint32
	for _, n := range numbers {
		kept = append(kept, slices.Clone(room(n)))
	}
	for j := range room(numbers[i]) {
		room(numbers[i])[j] ^= top
	}
	for k, n := range numbers {
		if k != i && !slices.Equal(room(n), kept[k]) {
			return true
		}
	}
	return false
}

// An answer to the same question is as it was, whatever was written into an earlier one.
func TestAnswersAreNotKept(t *testing.T) {
	ask := []func() api.Int{
		func() api.Int { return Of(1) },
		func() api.Int { return Of(-5) },
		func() api.Int { return Add(Of(-1), Of(2)) },
		func() api.Int { q, _, _ := Floor(Of(-1), Of(2)); return q },
		func() api.Int { r, _, _ := Root(Of(1)); return r },
		func() api.Int { n, _ := Parse("123456789012345678901234567890"); return n },
	}
	for i, call := range ask {
		first := call()
		kept := slices.Clone(first.L)
		second := call()
		for j := range room(second) {
			room(second)[j] = mark
		}
		if third := call(); !slices.Equal(first.L, kept) || !slices.Equal(third.L, kept) {
			t.Errorf("question %d: two answers share memory", i)
		}
	}
}

// Every answer is Good, and the same whether a number is Good or not.
func TestNotGoodCountsAsNorm(t *testing.T) {
	for name, call := range calls() {
		for _, a := range samples() {
			for _, b := range edges() {
				got, want := call(a, b), call(intOf(bigOf(a)), intOf(bigOf(b)))
				for i := range got {
					if !Good(got[i]) || got[i].Neg != want[i].Neg || !slices.Equal(got[i].L, want[i].L) {
						t.Fatalf("%s of %v and %v: %v, want %v", name, a, b, got, want)
					}
				}
			}
		}
	}
}

// Both arguments may be one number.
func TestOneNumberTwice(t *testing.T) {
	for name, call := range calls() {
		for _, a := range samples() {
			x := roomy(a)
			got, want := call(x, x), call(a, roomy(a))
			for i := range got {
				if got[i].Neg != want[i].Neg || !slices.Equal(got[i].L, want[i].L) {
					t.Errorf("%s of %v twice: %v, want %v", name, a, got, want)
				}
			}
		}
	}
}
