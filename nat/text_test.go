package nat

import (
	"math"
	"math/big"
	"strings"
	"testing"
)

func TestText(t *testing.T) {
	for _, a := range samples() {
		for base := 2; base <= 36; base++ {
			if got, want := Text(a, base), bigOf(a).Text(base); got != want {
				t.Errorf("Text(%v, %d): %q, want %q", a, base, got, want)
			}
		}
	}
	if got := Text([]uint32{255}, 16); got != "ff" {
		t.Errorf("Text of 255, base 16: %q", got)
	}
}

func TestTextOfNought(t *testing.T) {
	for _, a := range [][]uint32{nil, {}, {0}, {0, 0}} {
		for _, base := range []int{2, 10, 36} {
			if got := Text(a, base); got != "0" {
				t.Errorf("Text(%v, %d): %q", a, base, got)
			}
		}
	}
}

func TestWrongBase(t *testing.T) {
	for _, base := range []int{math.MinInt, -10, -2, -1, 0, 1, 37, 62, 1 << 32, 1<<32 + 10, math.MaxInt} {
		for _, a := range [][]uint32{nil, {0}, {1}, {5, 6}} {
			if got := Text(a, base); got != "" {
				t.Errorf("Text(%v, %d): %q", a, base, got)
			}
		}
		for _, s := range []string{"", "0", "1", "10"} {
			refused(t, s, base)
		}
	}
}

func refused(t *testing.T, s string, base int) {
	t.Helper()
	if got, ok := Parse(s, base); ok || len(got) != 0 {
		t.Errorf("Parse(%q, %d): %v, %t", s, base, got, ok)
	}
}

func parsed(t *testing.T, s string, base int) {
	t.Helper()
	want, ok := new(big.Int).SetString(s, base)
	if !ok {
		t.Fatalf("%q is no number of base %d", s, base)
	}
	got, ok := Parse(s, base)
	if !ok {
		t.Errorf("Parse(%q, %d): false", s, base)
	}
	same(t, "Parse", got, want)
}

func TestParse(t *testing.T) {
	parsed(t, "0", 2)
	parsed(t, "000", 10)
	parsed(t, "00042", 10)
	parsed(t, "4294967295", 10)
	parsed(t, "4294967296", 10)
	parsed(t, "18446744073709551616", 10)
	parsed(t, "ff", 16)
	parsed(t, "FF", 16)
	parsed(t, "dEaDbEeF0123456789AbCdEf", 16)
	parsed(t, "zZ09aA", 36)
	parsed(t, "101", 2)
}

// Of each base every digit that it has is read, and the one behind the last is refused.
func TestParseDigits(t *testing.T) {
	for base := 2; base <= 36; base++ {
		for d, c := range digits {
			small := string(c)
			for _, s := range []string{small, strings.ToUpper(small), "1" + small, strings.ToUpper(small) + "1"} {
				if d < base {
					parsed(t, s, base)
				} else {
					refused(t, s, base)
				}
			}
		}
	}
}

// Of base 36 just 62 bytes are digits.
func TestParseBytes(t *testing.T) {
	count := 0
	for c := range 256 {
		s := string([]byte{byte(c)})
		isDigit := strings.Contains(digits, strings.ToLower(s))
		if isDigit {
			count++
			parsed(t, s, 36)
			continue
		}
		refused(t, s, 36)
		refused(t, "1"+s, 36)
		refused(t, s+"1", 36)
	}
	if count != 62 {
		t.Errorf("%d digits, want 62", count)
	}
}

func TestParseRefuses(t *testing.T) {
	for _, s := range []string{"", " ", "-1", "+1", " 1", "1 ", "1_0", "0x10", "1.0", "é", "\x00", "1\xff", "١"} {
		for _, base := range []int{2, 10, 36} {
			if s == "0x10" && base == 36 { // x is a digit there
				continue
			}
			refused(t, s, base)
		}
	}
	refused(t, "2", 2)
	refused(t, "12a", 10)
	refused(t, "fg", 16)
	refused(t, "yz", 35)
}

func TestParseLength(t *testing.T) {
	for base := 2; base <= 36; base++ {
		last := digits[base-1 : base]
		for _, n := range []int{1, 999, 1000} {
			parsed(t, strings.Repeat(last, n), base)
			parsed(t, strings.Repeat("0", n), base)
		}
		for _, n := range []int{1001, 1002, 5000} {
			refused(t, strings.Repeat(last, n), base)
			refused(t, strings.Repeat("0", n), base)
		}
		parsed(t, "1"+strings.Repeat("0", 999), base)
		refused(t, "1"+strings.Repeat("0", 1000), base)
	}
}

// Parse of Text is the number, in small and in capital letters, wherever the text may be read.
func TestParseOfText(t *testing.T) {
	for _, a := range samples() {
		for base := 2; base <= 36; base++ {
			text := Text(a, base)
			if len(text) > 1000 {
				refused(t, text, base)
				continue
			}
			for _, s := range []string{text, strings.ToUpper(text)} {
				got, ok := Parse(s, base)
				if !ok {
					t.Errorf("Parse(%q, %d): false", s, base)
				}
				same(t, "Parse of Text", got, bigOf(a))
			}
		}
	}
}
