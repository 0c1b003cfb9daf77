package nat

import (
	"math"
	"slices"
	"testing"
)

const mark = 0xdecade

// roomy is a copy of a with marks in the room behind its end.
func roomy(a []uint32) []uint32 {
	out := append(slices.Clone(a), mark, mark, mark, mark)
	return out[:len(a):len(out)]
}

// whole is a list and the room behind its end.
func whole(a []uint32) []uint32 { return a[:cap(a)] }

// calls are all that take lists, each with the lists that it answers.
func calls() map[string]func(a, b []uint32) [][]uint32 {
	one := func(a []uint32) [][]uint32 { return [][]uint32{a} }
	return map[string]func(a, b []uint32) [][]uint32{
		"Norm":       func(a, b []uint32) [][]uint32 { return one(Norm(a)) },
		"Cmp":        func(a, b []uint32) [][]uint32 { Cmp(a, b); return nil },
		"Add":        func(a, b []uint32) [][]uint32 { return one(Add(a, b)) },
		"Sub":        func(a, b []uint32) [][]uint32 { return one(Sub(a, b)) },
		"Mul":        func(a, b []uint32) [][]uint32 { return one(Mul(a, b)) },
		"DivSmall 1": func(a, b []uint32) [][]uint32 { q, _ := DivSmall(a, 1); return one(q) },
		"DivSmall 9": func(a, b []uint32) [][]uint32 { q, _ := DivSmall(a, 9); return one(q) },
		"Div":        func(a, b []uint32) [][]uint32 { q, r := Div(a, b); return [][]uint32{q, r} },
		"Shift 0":    func(a, b []uint32) [][]uint32 { return one(Shift(a, 0)) },
		"Shift 33":   func(a, b []uint32) [][]uint32 { return one(Shift(a, 33)) },
		"Shift -33":  func(a, b []uint32) [][]uint32 { return one(Shift(a, -33)) },
		"Bits":       func(a, b []uint32) [][]uint32 { Bits(a); return nil },
		"Text":       func(a, b []uint32) [][]uint32 { Text(a, 10); return nil },
		"Small":      func(a, b []uint32) [][]uint32 { Small(a); return nil },
	}
}

func TestArgumentsAreLeft(t *testing.T) {
	for name, call := range calls() {
		for _, a := range samples() {
			for _, b := range edges() {
				x, y := roomy(a), roomy(b)
				keptX, keptY := slices.Clone(whole(x)), slices.Clone(whole(y))
				call(x, y)
				if !slices.Equal(whole(x), keptX) || !slices.Equal(whole(y), keptY) {
					t.Fatalf("%s of %v and %v changes what it is given", name, a, b)
				}
			}
		}
	}
}

// What is written into an answer and into its spare room is seen nowhere else, nor is it touched through an argument.
func TestAnswersAreNew(t *testing.T) {
	for name, call := range calls() {
		for _, a := range samples() {
			for _, b := range edges() {
				x, y := roomy(a), roomy(b)
				lists := call(x, y)
				lists = append(lists, x, y)
				for i := range lists {
					if touches(lists, i) {
						t.Fatalf("%s of %v and %v: list %d shares memory", name, a, b, i)
					}
				}
			}
		}
	}
}

// touches: a change to the i-th list, and the room behind it, is seen in another.
func touches(lists [][]uint32, i int) bool {
	var kept [][]uint32
	for _, l := range lists {
		kept = append(kept, slices.Clone(whole(l)))
	}
	for j := range whole(lists[i]) {
		whole(lists[i])[j] ^= top
	}
	for k, l := range lists {
		if k != i && !slices.Equal(whole(l), kept[k]) {
			return true
		}
	}
	return false
}

// Both arguments may be one list.
func TestOneListTwice(t *testing.T) {
	for _, a := range samples() {
		x := roomy(a)
		b := slices.Clone(a)
		if Cmp(x, x) != 0 || len(Sub(x, x)) != 0 {
			t.Errorf("%v is not itself", a)
		}
		if !slices.Equal(Add(x, x), Add(a, b)) || !slices.Equal(Mul(x, x), Mul(a, b)) {
			t.Errorf("Add or Mul of %v and itself", a)
		}
		q, r := Div(x, x)
		if len(r) != 0 || Bits(a) > 0 && !slices.Equal(q, []uint32{1}) || Bits(a) == 0 && len(q) != 0 {
			t.Errorf("Div of %v by itself: %v, %v", a, q, r)
		}
	}
}

// Parse answers a list of its own each time.
func TestParseIsNew(t *testing.T) {
	first, _ := Parse("123456789012345678901234567890", 10)
	kept := slices.Clone(first)
	second, _ := Parse("123456789012345678901234567890", 10)
	for i := range whole(second) {
		whole(second)[i] = mark
	}
	if !slices.Equal(first, kept) {
		t.Error("two answers of Parse share memory")
	}
}

// No call panics, whatever it is given, and nil is as good as an empty list.
func TestNothingPanics(t *testing.T) {
	ints := []int{math.MinInt, math.MinInt + 1, -4097, -1, 0, 1, 2, 36, 37, 4097, math.MaxInt}
	for _, a := range samples() {
		for _, n := range ints {
			Shift(a, n)
			Text(a, n)
			Parse("zZ", n)
			Parse(string([]byte{0, 255}), n)
		}
	}
	for name, call := range calls() {
		for _, a := range samples() {
			withNil, withEmpty := call(a, nil), call(a, []uint32{})
			for i := range withNil {
				if !slices.Equal(withNil[i], withEmpty[i]) {
					t.Errorf("%s of %v: nil is not as an empty list", name, a)
				}
			}
		}
	}
}
