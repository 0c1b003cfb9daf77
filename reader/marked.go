package reader

import (
	"strings"

	"pavane/api"
	"pavane/datum"
)

const (
	bar       = '|'
	quote     = '"'
	backslash = '\\'

	hexBase       = 16
	mostHexDigits = 2
)

// str reads a string.
func (r *reader) str() (api.Datum, bool) {
	begin := r.at
	s, ok := r.marked(quote)
	switch {
	case !ok:
		return api.Datum{}, false
	case len(s) > api.MaxStr:
		return r.none(api.ErrRead, begin)
	}
	return datum.Text(s), true
}

// symbol reads a symbol between bars.
func (r *reader) symbol() (api.Datum, bool) {
	begin := r.at
	s, ok := r.marked(bar)
	switch {
	case !ok:
		return api.Datum{}, false
	case s == "" || len(s) > api.MaxName:
		return r.none(api.ErrRead, begin)
	}
	return datum.Symbol(s), true
}

// marked reads what stands between this mark and the next one.
func (r *reader) marked(mark byte) (string, bool) {
	var out strings.Builder
	r.at++
	for r.at < len(r.text) {
		switch c := r.text[r.at]; c {
		case mark:
			r.at++
			return out.String(), true
		case backslash:
			s, length := escaped(r.text[r.at:], mark)
			if length == 0 {
				return "", r.fail(api.ErrRead, r.at)
			}
			out.WriteString(s)
			r.at += length
		default:
			out.WriteByte(c)
			r.at++
		}
	}
	return "", r.fail(api.ErrRead, r.at)
}

// escaped tells what the backslash at the begin of s stands for between two marks, and how many bytes of s that takes: 0 if it stands for nothing.
func escaped(s string, mark byte) (string, int) {
	if len(s) == 1 {
		return "", 0
	}
	switch c := s[1]; c {
	case 'n':
		return "\n", 2
	case 't':
		return "\t", 2
	case 'r':
		return "\r", 2
	case mark, backslash:
		return string([]byte{c}), 2
	case 'x':
		return escapedNumber(s)
	}
	return "", brokenLine(s)
}

// escapedNumber is escaped of a backslash, x, digits and a semicolon.
func escapedNumber(s string) (string, int) {
	const ahead = len(`\x`)
	value := 0
	for i, c := range s[ahead:] {
		if c == ';' && i > 0 {
			return string([]byte{byte(value)}), ahead + i + 1
		}
		digit := hexDigit(c)
		if digit == hexBase || i == mostHexDigits {
			break
		}
		value = value*hexBase + digit
	}
	return "", 0
}

// hexDigit is hexBase, which no digit is, of what is none.
func hexDigit(c rune) int {
	switch {
	case '0' <= c && c <= '9':
		return int(c - '0')
	case 'a' <= c && c <= 'f':
		return int(c-'a') + 10
	case 'A' <= c && c <= 'F':
		return int(c-'A') + 10
	}
	return hexBase
}

// brokenLine is how many bytes a backslash, blanks, a line feed and blanks take; 0 if it is not that which s begins with.
func brokenLine(s string) int {
	feed := 1 + blanks(s[1:])
	if feed == len(s) || s[feed] != '\n' {
		return 0
	}
	return feed + 1 + blanks(s[feed+1:])
}

// blanks is how many there are at the begin of s, of those that may stand around the end of a broken line.
func blanks(s string) int {
	return len(s) - len(strings.TrimLeft(s, " \t"))
}
