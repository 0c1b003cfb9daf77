package reader

import (
	"strings"

	"pavane/api"
)

const (
	blockBegin = "#|"
	blockEnd   = "|#"
	unread     = "#;"
)

// Skip: the place behind blanks and remarks from at on.
func Skip(s string, at int) (int, api.Errno) {
	if err := mayBeRead(s, at); err != api.OK {
		return 0, err
	}
	r := reader{text: s, at: at}
	r.skip()
	return r.at, r.err
}

// skip goes over blanks and remarks; false if one of these is none.
func (r *reader) skip() bool {
	for r.at < len(r.text) {
		rest, ok := r.text[r.at:], true
		switch {
		case isBlank(rest[0]):
			r.at++
		case rest[0] == ';':
			r.skipLine()
		case strings.HasPrefix(rest, blockBegin):
			ok = r.skipBlock()
		case strings.HasPrefix(rest, unread):
			ok = r.skipDatum()
		default:
			return true
		}
		if !ok {
			return false
		}
	}
	return true
}

func isBlank(c byte) bool {
	switch c {
	case ' ', '\t', '\n', '\r', '\f':
		return true
	}
	return false
}

// skipLine goes up to a line feed or the end.
func (r *reader) skipLine() {
	for r.at < len(r.text) && r.text[r.at] != '\n' {
		r.at++
	}
}

// skipBlock goes over a remark in which others may be. Where one lacks its end, the outermost does, whose place is told.
func (r *reader) skipBlock() bool {
	begin, open := r.at, 0
	for r.at < len(r.text) {
		switch rest := r.text[r.at:]; {
		case strings.HasPrefix(rest, blockBegin):
			open++
			r.at += len(blockBegin)
		case strings.HasPrefix(rest, blockEnd):
			open--
			r.at += len(blockEnd)
		default:
			r.at++
		}
		if open == 0 {
			return true
		}
	}
	return r.fail(api.ErrRead, begin)
}

// skipDatum goes over #; and a datum. What stands between these is in this remark, too: another #; there has this one around it.
func (r *reader) skipDatum() bool {
	r.at += len(unread)
	r.around++
	_, ok := r.datum()
	r.around--
	return ok
}
