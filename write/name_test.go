package write

import (
	"fmt"
	"regexp"
	"strings"
	"testing"

	"pavane/whole"
)

func TestPlain(t *testing.T) {
	plain := []string{
		"a", "z", "A", "Z", "ab", "set-car!", "call/cc", "string->symbol", "a.b", "a1", "a-1", "a+1", "a.1", "let*", "<=?", "@", "@1", "_", "$", "%x", "&c", "^~",
		"+", "-", "..", "...", "....", "+a", "-a", ".a", "+a1", "-a1", ".a1", "++", "--", "+-", "-+1", "+.1", "-.5", "..5", ".+5", ".-", "e1", ":1", "/2",
		strings.Repeat("x", longestName), strings.Repeat(".", longestName), "+x" + strings.Repeat("1", longestName-2),
	}
	for _, s := range plain {
		if !Plain(s) {
			t.Errorf("Plain(%q) is false", s)
		}
	}
	none := []string{
		"", ".", "0", "1", "9", "12", "+1", "-1", ".1", "+0", "-9", ".0", "1+", "1a", "9.", "+1a", "-1-", ".5.", "+12", "-007", "1.5", "-1.5",
		" ", "a b", " a", "a ", "a\n", "\ta", "a|b", "|a|", "(", "a)", "[a", "a]", "{", "}", "'a", "`a", ",a", "a;b", "#t", "#f", "a#", "\"a\"", `a\b`, `\`,
		"\x00", "a\x7f", "\x80", "é", "\xff", "a\x00", "aé",
		strings.Repeat("x", longestName+1), strings.Repeat(".", longestName+1), strings.Repeat("x", 100000),
	}
	for _, s := range none {
		if Plain(s) {
			t.Errorf("Plain(%q) is true", s)
		}
	}
}

// plains are the bytes that the chapter lets a plain symbol have.
const plains = "abcdefghijklmnopqrstuvwxyzABCDEFGHIJKLMNOPQRSTUVWXYZ0123456789!$%&*/:<=>?^_~+-.@"

func TestPlainBytes(t *testing.T) {
	for c := range 256 {
		one := string([]byte{byte(c)})
		want := strings.Contains(plains, one)
		if got := Plain("a" + one); got != want {
			t.Errorf("Plain(%q): %t", "a"+one, got)
		}
		if got := Plain("a" + one + "a"); got != want {
			t.Errorf("Plain(%q): %t", "a"+one+"a", got)
		}
		isDigit := '0' <= c && c <= '9'
		if got := Plain(one + "a"); got != (want && !isDigit) {
			t.Errorf("Plain(%q): %t", one+"a", got)
		}
		if got := Plain(one); got != (want && !isDigit && c != '.') {
			t.Errorf("Plain(%q): %t", one, got)
		}
	}
}

// shorts are all texts of 1 to 4 of these bytes.
func shorts(bytes string) []string {
	out, last := []string{}, []string{""}
	for range 4 {
		var next []string
		for _, s := range last {
			for i := range len(bytes) {
				next = append(next, s+bytes[i:i+1])
			}
		}
		out, last = append(out, next...), next
	}
	return out
}

func TestPlainShorts(t *testing.T) {
	bytes := regexp.MustCompile(`^[a-zA-Z0-9!$%&*/:<=>?^_~+\-.@]+$`)
	begin := regexp.MustCompile(`^(\.$|[0-9]|[+\-.][0-9])`)
	for _, s := range shorts("a019+-.@e/| \x80") {
		want := bytes.MatchString(s) && !begin.MatchString(s)
		if got := Plain(s); got != want {
			t.Errorf("Plain(%q): %t", s, got)
		}
		if _, ok := whole.Parse(s); ok && Plain(s) {
			t.Errorf("%q is Plain and a number", s)
		}
	}
}

func TestName(t *testing.T) {
	for _, x := range []struct{ s, want string }{
		{"a", "a"}, {"a.b", "a.b"}, {"...", "..."}, {"..", ".."}, {"+", "+"}, {"-a", "-a"},
		{"", "||"}, {".", "|.|"}, {"1", "|1|"}, {"-1", "|-1|"}, {"+1a", "|+1a|"}, {".5", "|.5|"}, {"1a", "|1a|"},
		{" ", "| |"}, {"a b", "|a b|"}, {"#t", "|#t|"}, {"(a)", "|(a)|"}, {"a;b", "|a;b|"},
		{"|", `|\||`}, {"a|b", `|a\|b|`}, {`\`, `|\\|`}, {`a\b`, `|a\\b|`}, {`\|`, `|\\\||`}, {`"`, `|"|`}, {`a"b`, `|a"b|`},
		{"\n", `|\x0a;|`}, {"\t", `|\x09;|`}, {"\r", `|\x0d;|`}, {"\x00", `|\x00;|`}, {"\x1f", `|\x1f;|`}, {"\x1f ", `|\x1f; |`},
		{"~", "~"}, {"~ ", "|~ |"}, {"\x7f", `|\x7f;|`}, {"\x80", `|\x80;|`}, {"\xff", `|\xff;|`}, {"é", `|\xc3;\xa9;|`}, {`\x41;`, `|\\x41;|`},
		{strings.Repeat("x", longestName), strings.Repeat("x", longestName)},
		{strings.Repeat("x", longestName+1), "|" + strings.Repeat("x", longestName+1) + "|"},
		{strings.Repeat("\x00", longestName), "|" + strings.Repeat(`\x00;`, longestName) + "|"},
	} {
		if got := Name(x.s); got != x.want {
			t.Errorf("Name(%q): %s, want %s", x.s, got, x.want)
		}
	}
}

func TestQuote(t *testing.T) {
	for _, x := range []struct{ s, want string }{
		{"", `""`}, {"a", `"a"`}, {"1", `"1"`}, {".", `"."`}, {" ", `" "`}, {"a b", `"a b"`}, {"#t", `"#t"`},
		{`"`, `"\""`}, {`a"b`, `"a\"b"`}, {`\`, `"\\"`}, {`\"`, `"\\\""`}, {"|", `"|"`}, {"a|b", `"a|b"`},
		{"\n", `"\n"`}, {"\t", `"\t"`}, {"a\n\tb", `"a\n\tb"`}, {"\r", `"\x0d;"`}, {"\x00", `"\x00;"`}, {"\x1f", `"\x1f;"`},
		{"~", `"~"`}, {"\x7f", `"\x7f;"`}, {"\x80", `"\x80;"`}, {"\xff", `"\xff;"`}, {"é", `"\xc3;\xa9;"`}, {`\n`, `"\\n"`},
		{strings.Repeat("x", 100000), `"` + strings.Repeat("x", 100000) + `"`},
	} {
		if got := Quote(x.s); got != x.want {
			t.Errorf("Quote(%q): %s, want %s", x.s, got, x.want)
		}
	}
}

// inside is how the byte c stands between two marks, but for those that strings alone have.
func inside(c int, mark string) string {
	one := string([]byte{byte(c)})
	switch {
	case one == mark || one == `\`:
		return `\` + one
	case c < 32 || c > 126:
		return fmt.Sprintf(`\x%02x;`, c)
	}
	return one
}

func TestEveryByteInside(t *testing.T) {
	for c := range 256 {
		s := "a (" + string([]byte{byte(c)}) + "0"
		want := "a (" + inside(c, "|") + "0"
		if got := Name(s); got != "|"+want+"|" {
			t.Errorf("Name(%q): %s", s, got)
		}
		want = "a (" + inside(c, `"`) + "0"
		switch c {
		case '\n':
			want = `a (\n0`
		case '\t':
			want = `a (\t0`
		}
		if got := Quote(s); got != `"`+want+`"` {
			t.Errorf("Quote(%q): %s", s, got)
		}
	}
}

func TestNameKeepsPlain(t *testing.T) {
	for _, s := range shorts("a1+.-|\\ \n") {
		if got := Name(s); (got == s) != Plain(s) {
			t.Errorf("Name(%q): %s, but Plain is %t", s, got, Plain(s))
		}
	}
}
