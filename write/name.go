package write

import (
	"strings"

	"pavane/api"
)

const (
	bar   = '|'
	quote = '"'

	// Bytes below and above these are shown by their number.
	firstShown = 32
	lastShown  = 126

	digits = "0123456789abcdef"
)

// signs are the bytes of a Plain text beside letters and digits.
var signs = [...]byte{'!', '$', '%', '&', '*', '/', ':', '<', '=', '>', '?', '^', '_', '~', '+', '-', '.', '@'}

// Plain: s is a symbol that needs no bars.
func Plain(s string) bool {
	if s == "" || len(s) > api.MaxName || s == "." {
		return false
	}
	for i := range len(s) {
		if !isPlain(s[i]) {
			return false
		}
	}
	// No number is left by this, either: one is digits, at times behind a sign.
	return !isDigit(s[0]) && !beginsNumber(s)
}

// Name: s, if it is Plain; else s between bars.
func Name(s string) string {
	if Plain(s) {
		return s
	}
	return between(bar, s)
}

// Quote: s as a string is written.
func Quote(s string) string {
	return between(quote, s)
}

// isPlain: c may be in a Plain text.
func isPlain(c byte) bool {
	for _, sign := range signs {
		if c == sign {
			return true
		}
	}
	return 'a' <= c && c <= 'z' || 'A' <= c && c <= 'Z' || isDigit(c)
}

func isDigit(c byte) bool { return '0' <= c && c <= '9' }

// beginsNumber: a digit stands behind a first +, - or dot.
func beginsNumber(s string) bool {
	return len(s) > 1 && (s[0] == '+' || s[0] == '-' || s[0] == '.') && isDigit(s[1])
}

// between is s between two marks, so that none of its bytes ends it there.
func between(mark byte, s string) string {
	var out strings.Builder
	put := out.WriteByte
	put(mark)
	for i := range len(s) {
		putInside(put, mark, s[i])
	}
	put(mark)
	return out.String()
}

// putInside puts c as it stands between two marks; only strings have short forms for line feed and tab.
func putInside(put func(byte) error, mark, c byte) {
	switch {
	case c == mark || c == '\\':
		put('\\')
		put(c)
	case mark == quote && c == '\n':
		put('\\')
		put('n')
	case mark == quote && c == '\t':
		put('\\')
		put('t')
	case c < firstShown || c > lastShown:
		put('\\')
		put('x')
		put(digits[c>>4])
		put(digits[c&15])
		put(';')
	default:
		put(c)
	}
}
