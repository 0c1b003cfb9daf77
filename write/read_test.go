package write

import (
	"slices"
	"strconv"
	"strings"
	"testing"

	"pavane/api"
	"pavane/datum"
	"pavane/whole"
)

// scan reads what is written, by chapter 5: no more of it than Write makes use of.
type scan struct {
	rest string
	bad  bool
}

// take takes that many bytes off.
func (r *scan) take(n int) string {
	if n > len(r.rest) {
		r.bad = true
		n = len(r.rest)
	}
	out := r.rest[:n]
	r.rest = r.rest[n:]
	return out
}

// has takes s off, if it stands there.
func (r *scan) has(s string) bool {
	ok := strings.HasPrefix(r.rest, s)
	if ok {
		r.take(len(s))
	}
	return ok
}

func (r *scan) datum() api.Datum {
	switch {
	case r.has("("):
		return r.list()
	case r.has("|"):
		return sym(r.marked("|"))
	case r.has(`"`):
		return str(r.marked(`"`))
	}
	end := strings.IndexAny(r.rest+")", " ()[]\";'`,|")
	return r.atom(r.take(end))
}

func (r *scan) atom(s string) api.Datum {
	n, isNumber := whole.Parse(s)
	switch {
	case s == "#t" || s == "#f":
		return boolean(s == "#t")
	case isNumber:
		return api.Datum{Kind: api.Num, I: n}
	}
	r.bad = r.bad || !Plain(s)
	return sym(s)
}

func (r *scan) list() api.Datum {
	out := list()
	for !r.bad && !r.has(")") {
		if len(out.Items) > 0 && !r.has(" ") {
			r.bad = true
		}
		if r.has(". ") {
			out.Tail = []api.Datum{r.datum()}
			r.bad = r.bad || !r.has(")")
			return out
		}
		out.Items = append(out.Items, r.datum())
	}
	return out
}

// marked is what stands ahead of the next mark.
func (r *scan) marked(mark string) string {
	var out strings.Builder
	for !r.bad && !r.has(mark) {
		if c := r.take(1); c != `\` {
			out.WriteString(c)
			continue
		}
		switch c := r.take(1); c {
		case "n":
			out.WriteByte('\n')
		case "t":
			out.WriteByte('\t')
		case "x":
			n, err := strconv.ParseUint(r.take(2), 16, 8)
			r.bad = r.bad || err != nil || !r.has(";")
			out.WriteByte(byte(n))
		default:
			r.bad = r.bad || c != mark && c != `\`
			out.WriteString(c)
		}
	}
	return out.String()
}

// readBack is the datum that s is read as; false, if it is none, or there is more.
func readBack(s string) (api.Datum, bool) {
	r := scan{rest: s}
	d := r.datum()
	return d, !r.bad && r.rest == ""
}

func checkBack(t *testing.T, d api.Datum) {
	t.Helper()
	if got, ok := readBack(Write(d)); !ok || !datum.Same(got, d) {
		t.Errorf("%s is read as %v, %t, but is %v", Write(d), got, ok, d)
	}
}

// atoms are Good, and each can be read.
func atoms() []api.Datum {
	return []api.Datum{
		num(false), num(false, 1), num(true, 1), num(true, 0, 1), num(false, slices.Repeat([]uint32{1}, api.MaxLimbs)...),
		boolean(true), boolean(false), list(),
		sym("a"), sym("A"), sym("."), sym(".."), sym("..."), sym("+"), sym("-1"), sym("1"), sym("+a"), sym("#t"), sym("#v"), sym("a b"), sym("|"), sym(`\`), sym("a;b"), sym("'a"), sym(" "),
		sym("\x00\n\t\xff"), sym(strings.Repeat("\x00", api.MaxName)),
		str(""), str("a"), str(`"`), str(`\`), str("|"), str("#t"), str("(a . b)"), str("\x00\n\t\xff"), str(strings.Repeat(`"`, api.MaxStr)),
	}
}

func TestWrittenIsReadBack(t *testing.T) {
	for _, a := range atoms() {
		checkBack(t, a)
		checkBack(t, list(a))
		for _, b := range atoms() {
			checkBack(t, list(a, b))
			checkBack(t, list(list(a, b), b, list(b)))
			if b.Kind != api.List {
				checkBack(t, dotted(list(a), b))
				checkBack(t, list(dotted(list(b, a), b), a))
			}
		}
	}
	checkBack(t, list(atoms()...))
	checkBack(t, chain(api.MaxDeep, sym("a b")))
	checkBack(t, list(slices.Repeat([]api.Datum{num(true, 7)}, api.MaxItems-1)...))
}

func TestTextsAreReadBack(t *testing.T) {
	for a := range 256 {
		for b := range 256 {
			s := string([]byte{byte(a), byte(b)})
			checkBack(t, sym(s))
			checkBack(t, str(s))
		}
	}
	for _, s := range shorts("a1+-.|\\\"\n ") {
		checkBack(t, sym(s))
		checkBack(t, str(s))
	}
}
