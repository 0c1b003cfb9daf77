package reader

import (
	"math"
	"slices"
	"strings"
	"testing"

	"pavane/api"
	"pavane/datum"
	"pavane/write"
)

// atoms are Good data, each in a few bytes; all but Nothing, which is written as no datum is read.
func atoms() []api.Datum {
	out := []api.Datum{
		num(false), num(false, 1), num(true, 1), num(false, 0, 1), num(true, math.MaxUint32, math.MaxUint32), num(true, slices.Repeat([]uint32{7}, mostLimbs)...),
		boolean(true), boolean(false), list(), str(""), str(strings.Repeat(`"`, longestString)), str(strings.Repeat("\n", longestString)), sym(strings.Repeat("\x00", longestName)), sym(strings.Repeat("X", longestName)),
	}
	for _, s := range []string{"a", "A", "aB", ".", "..", "...", ".a", "+", "-", "+a", "1", "-1", "+1a", ".5", "1a", "#", "#t", "#false", "#v", "#|", "|#", "#;", "a b", " ", "(", ")", "[a]", "'", "'a", "`", ",", ",@", "@", ";", "a;b", "|", "a|b", `\`, `\\`, `\x41;`, `\n`, `"`, `a"b`, "\n", "\t", "\r", "\f", "\x00", "\x1f", "\x7f", "\x80", "\xff", "é", "quote", "a\n  b", "\\\n"} {
		out = append(out, sym(s), str(s))
	}
	return out
}

// checkBack: d is read from what it is written as, wherever that stands.
func checkBack(t *testing.T, d api.Datum) {
	t.Helper()
	if !datum.Good(d) {
		t.Errorf("%s is not Good", told(d))
	}
	s := write.Write(d)
	checkRead(t, s, 0, d, len(s))
	checkRead(t, "a #;b "+s+")", 1, d, 6+len(s))
}

func TestWrittenIsRead(t *testing.T) {
	for _, a := range atoms() {
		checkBack(t, a)
		checkBack(t, list(a))
		checkBack(t, list(sym("quote"), a))
		for _, b := range atoms() {
			checkBack(t, list(a, b))
			checkBack(t, list(list(a, b), b, list(b), list(list(), a)))
			if b.Kind != api.List {
				checkBack(t, dotted(list(a), b))
				checkBack(t, list(dotted(list(b, a), b), a))
			}
		}
	}
}

func TestWrittenTextsAreRead(t *testing.T) {
	for a := range 256 {
		for b := range 256 {
			s := string([]byte{byte(a), byte(b)})
			checkBack(t, sym(s))
			checkBack(t, str(s))
		}
	}
	for _, s := range texts(4, "a", "1", "+", "-", ".", "|", `\`, `"`, "\n", " ", "#", "x") {
		checkBack(t, str(s))
		if s != "" {
			checkBack(t, sym(s))
		}
	}
}

func TestWrittenLimitsAreRead(t *testing.T) {
	checkBack(t, chain(deepest-1, sym("a b")))
	checkBack(t, chain(deepest-1, list()))
	checkBack(t, chain(deepest-2, dotted(list(sym("a")), num(true, 1))))
	ones := slices.Repeat([]api.Datum{num(false, 1)}, mostItems)
	checkBack(t, list(ones[1:]...))
	checkBack(t, dotted(list(ones[2:]...), str("a")))
	quoted := sym("x")
	for range deepest - 1 {
		quoted = list(sym("quote"), quoted)
	}
	checkBack(t, quoted)
	for _, limbs := range [][]uint32{{math.MaxUint32}, {0, 1}, {0, 0, 0, 1 << 31}, slices.Repeat([]uint32{math.MaxUint32}, mostLimbs)} {
		checkBack(t, list(num(true, limbs...), num(false, limbs...)))
	}
}

// What is read is Good, and what it is written as is read as it again.
func TestReadIsGood(t *testing.T) {
	for _, x := range reads() {
		d, _, _ := Read(x.s, 0)
		checkBack(t, d)
	}
}

// All of what is written, one behind the other, are those data.
func TestAllOfWritten(t *testing.T) {
	for _, between := range []string{" ", "\n", ";a\n", " #;(b)", " #||# ", "\f"} {
		var data []api.Datum
		s := ""
		for _, a := range atoms() {
			if len(write.Write(a)) < 40 {
				data = append(data, a, list(a, a))
				s += write.Write(a) + between + write.Write(list(a, a)) + between
			}
		}
		checkAll(t, s, data, len(s), api.OK)
	}
}
