package whole

import (
	"math/big"
	"strings"
	"testing"

	"pavane/api"
)

func TestText(t *testing.T) {
	for _, a := range samples() {
		if got, want := Text(a), bigOf(a).String(); got != want {
			t.Errorf("Text(%v): %q, want %q", a, got, want)
		}
	}
	for _, n := range ints() {
		if got, want := Text(Of(n)), big.NewInt(int64(n)).String(); got != want {
			t.Errorf("Text of %d: %q", n, got)
		}
	}
}

func TestTextOfNought(t *testing.T) {
	for _, a := range []api.Int{{}, {Neg: true}, {Neg: true, L: []uint32{}}, {L: []uint32{0}}, {Neg: true, L: []uint32{0, 0}}} {
		if got := Text(a); got != "0" {
			t.Errorf("Text(%v): %q", a, got)
		}
	}
}

func parsed(t *testing.T, s string, want *big.Int) {
	t.Helper()
	got, ok := Parse(s)
	if !ok {
		t.Errorf("Parse(%q): false", s)
	}
	same(t, "Parse", got, want)
}

func refused(t *testing.T, s string) {
	t.Helper()
	if got, ok := Parse(s); ok || !isZero(got) {
		t.Errorf("Parse(%q): %v, %t", s, got, ok)
	}
}

func TestParse(t *testing.T) {
	for _, digits := range []string{"0", "000", "1", "9", "10", "007", "4294967295", "4294967296", "9223372036854775807", "9223372036854775808", "18446744073709551616"} {
		n, _ := new(big.Int).SetString(digits, 10)
		parsed(t, digits, n)
		parsed(t, "+"+digits, n)
		parsed(t, "-"+digits, new(big.Int).Neg(n))
	}
}

func TestParseRefuses(t *testing.T) {
	for _, s := range []string{
		"", "-", "+", "--", "++", "+-", "-+", "--1", "++1", "+-1", "-+1", "1-", "1+", "1-2",
		" 1", "1 ", "- 1", "-1 ", "a", "-a", "1a", "f", "0x10", "1.0", "1e3", "1_0", "1/2",
		"\x00", "1\x00", "-\xff", "é", "−1", "١", "1\n",
	} {
		refused(t, s)
	}
}

// Just ten bytes are digits, and two are signs.
func TestParseBytes(t *testing.T) {
	for c := range 256 {
		s := string([]byte{byte(c)})
		if strings.Contains("0123456789", s) {
			parsed(t, s, big.NewInt(int64(c-'0')))
			parsed(t, "-1"+s, big.NewInt(int64(-10-(c-'0'))))
			continue
		}
		refused(t, s)
		refused(t, "1"+s)
		refused(t, "-"+s+"1")
		switch s {
		case "-":
			parsed(t, s+"1", big.NewInt(-1))
		case "+":
			parsed(t, s+"1", big.NewInt(1))
		default:
			refused(t, s+"1")
		}
	}
}

// The sign is no digit: it does not count among the 1000.
func TestParseLength(t *testing.T) {
	for _, digit := range []string{"0", "1", "9"} {
		for _, n := range []int{1, 999, 1000} {
			digits := strings.Repeat(digit, n)
			want, _ := new(big.Int).SetString(digits, 10)
			parsed(t, digits, want)
			parsed(t, "+"+digits, want)
			parsed(t, "-"+digits, new(big.Int).Neg(want))
		}
		for _, n := range []int{1001, 1002, 5000} {
			for _, sign := range []string{"", "+", "-"} {
				refused(t, sign+strings.Repeat(digit, n))
			}
		}
	}
	refused(t, "1"+strings.Repeat("0", 1000))
}

// Parse of Text is the number, wherever the text may be read.
func TestParseOfText(t *testing.T) {
	numbers := samples()
	most, _ := new(big.Int).SetString(strings.Repeat("9", 1000), 10)
	numbers = append(numbers, intOf(most), Neg(intOf(most)))
	for _, a := range numbers {
		parsed(t, Text(a), bigOf(a))
	}
	above := new(big.Int).Add(most, big.NewInt(1))
	refused(t, Text(intOf(above)))
	refused(t, Text(Neg(intOf(above))))
}
