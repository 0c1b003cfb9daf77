package prim

import (
	"strings"
	"testing"

	"pavane/api"
)

func TestStringLength(t *testing.T) {
	for s, want := range map[string]int64{"": 0, "a": 1, "ab c": 4, "é": 2, "\xff": 1, "\x00\x00": 2, "\xe2\x82": 2, "€\n": 4, strings.Repeat("\xfe", mostBytes): mostBytes} {
		check(t, api.PStrLen, of(want), str(s))
	}
	check(t, api.PStrLen, of(5*mostBytes), str(strings.Repeat("x", 5*mostBytes)))
}

func TestStringAppend(t *testing.T) {
	x := func(n int) api.Datum { return str(strings.Repeat("x", n)) }
	y := func(n int) api.Datum { return str(strings.Repeat("\xff", n)) }
	check(t, api.PStrApp, str("ab"), str("a"), str("b"))
	check(t, api.PStrApp, str("ba"), str("b"), str("a"))
	check(t, api.PStrApp, str("a\x00\xff"), str("a\x00"), str("\xff"))
	check(t, api.PStrApp, str("€"), str("\xe2"), str("\x82\xac"))
	check(t, api.PStrApp, str(""), str(""), str(""))
	check(t, api.PStrApp, str("a"), str(""), str("a"))
	check(t, api.PStrApp, str("a"), str("a"), str(""))
	for _, n := range []int{0, 1, mostBytes / 2, mostBytes - 1, mostBytes} {
		check(t, api.PStrApp, str(x(n).S+y(mostBytes-n).S), x(n), y(mostBytes-n))
		checkWrong(t, api.PStrApp, api.ErrLong, x(n), y(mostBytes-n+1))
		checkWrong(t, api.PStrApp, api.ErrLong, x(n+1), y(mostBytes-n))
	}
	// Half as many letters as bytes.
	check(t, api.PStrApp, str(strings.Repeat("é", mostBytes/2)), str(strings.Repeat("é", mostBytes/2-1)), str("é"))
	checkWrong(t, api.PStrApp, api.ErrLong, str(strings.Repeat("é", mostBytes/2)), str("é"))
	checkWrong(t, api.PStrApp, api.ErrLong, x(mostBytes+1), str(""))
	checkWrong(t, api.PStrApp, api.ErrLong, str(""), x(3*mostBytes))
	checkWrong(t, api.PStrApp, api.ErrLong, x(mostBytes), x(mostBytes))
}

func TestStringEqual(t *testing.T) {
	texts := []string{"", "a", "A", "ab", "a ", "a\x00", "b", "é", "\xe9", "e\u0301", strings.Repeat("x", mostBytes), strings.Repeat("x", mostBytes-1), strings.Repeat("x", 2*mostBytes)}
	for i, a := range texts {
		for j, b := range texts {
			check(t, api.PStrEq, truth(i == j), str(a), str(strings.Clone(b)))
		}
	}
	check(t, api.PStrEq, truth(true), str("s"), every(api.Str))
}

func TestSymbolToString(t *testing.T) {
	for _, s := range []string{"a", " ", "a b", "|", "\\", "car", "1", "A", "\x00", "\xff\xfe", "a\x001", "é", "\n", strings.Repeat("y", mostName), "", strings.Repeat("y", mostName+1), strings.Repeat("y", 2*mostBytes)} {
		check(t, api.PSymStr, str(s), sym(s))
	}
	check(t, api.PSymStr, str("s"), every(api.Sym))
}

func TestNumberToString(t *testing.T) {
	cases := map[string]api.Datum{
		"0": of(0), "1": of(1), "-1": of(-1), "10": of(10), "-905": of(-905), "4294967295": of(top), "4294967296": of(top + 1), "-9223372036854775808": of(-1 << 63),
		"18446744073709551616": power(64, 0), "-18446744073709551617": negative(power(64, 1)),
	}
	for want, d := range cases {
		check(t, api.PNumStr, str(want), d)
	}
	for _, d := range []api.Datum{num(true), num(false, 0), num(true, 0, 0)} {
		check(t, api.PNumStr, str("0"), d)
	}
	check(t, api.PNumStr, str("-5"), num(true, 5, 0, 0))
	check(t, api.PNumStr, str("-5"), every(api.Num))
	for _, n := range []uint{2047, 2048, 5000} {
		check(t, api.PNumStr, str(bigOf(power(n, -1)).String()), power(n, -1))
		check(t, api.PNumStr, str("-"+bigOf(power(n, -1)).String()), negative(power(n, -1)))
	}
	longest, _ := Do(api.PNumStr, []api.Datum{negative(power(2048, -1))})
	if len(longest.S) != 618 {
		t.Errorf("the longest number has %d bytes", len(longest.S))
	}
}
