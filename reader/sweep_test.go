package reader

import (
	"regexp"
	"strconv"
	"strings"
	"testing"

	"pavane/api"
)

// stack reads by the chapter without a call of itself: what is open stands in a list. It knows the forms of TestSweep alone.
type stack struct {
	text string
	at   int
	open []frame
	done []api.Datum
}

// frame is what is open: a list up to end, a quote of that name, or, with neither, a #;.
type frame struct {
	end   byte
	name  string
	d     api.Datum
	isDot bool
}

// put takes in a datum that came to its end.
func (r *stack) put(d api.Datum) {
	for len(r.open) > 0 {
		top := &r.open[len(r.open)-1]
		switch {
		case top.end != 0 && top.isDot:
			top.d.Tail = append(top.d.Tail, d)
			return
		case top.end != 0:
			top.d.Items = append(top.d.Items, d)
			return
		case top.name == "":
			r.open = r.open[:len(r.open)-1]
			return
		}
		d = list(sym(top.name), d)
		r.open = r.open[:len(r.open)-1]
	}
	r.done = append(r.done, d)
}

// close ends a list; false if none may end so.
func (r *stack) close(end byte) bool {
	if len(r.open) == 0 {
		return false
	}
	top := r.open[len(r.open)-1]
	if top.end != end || top.isDot && len(top.d.Tail) == 0 {
		return false
	}
	if top.isDot && top.d.Tail[0].Kind == api.List {
		tail := top.d.Tail[0]
		top.d.Items = append(top.d.Items, tail.Items...)
		top.d.Tail = tail.Tail
	}
	r.open = r.open[:len(r.open)-1]
	r.put(top.d)
	return true
}

// dot is a dot; false if none may be here.
func (r *stack) dot() bool {
	if len(r.open) == 0 {
		return false
	}
	top := &r.open[len(r.open)-1]
	if top.end == 0 || top.isDot || len(top.d.Items) == 0 {
		return false
	}
	top.isDot = true
	return true
}

// full: only the end of a list may stand here.
func (r *stack) full() bool {
	return len(r.open) > 0 && len(r.open[len(r.open)-1].d.Tail) > 0
}

var (
	remark    = regexp.MustCompile(`^([ \n]+|;[^\n]*)`)
	word      = regexp.MustCompile(`^[^ \n()\[\]";'` + "`" + `,|]+`)
	name      = regexp.MustCompile(`^[a.@]+$`)
	blockMark = regexp.MustCompile(`#\||\|#`)
)

// block is how long a #| remark is; 0 if it has no end.
func block(s string) int {
	open := 0
	for _, m := range blockMark.FindAllStringIndex(s, -1) {
		if s[m[0]] == '#' {
			open++
		} else {
			open--
		}
		if open == 0 {
			return m[1]
		}
	}
	return 0
}

// step reads one thing; false if it is wrong.
func (r *stack) step() bool {
	rest := r.text[r.at:]
	size := len(remark.FindString(rest))
	switch {
	case size > 0:
	case strings.HasPrefix(rest, "#|"):
		size = block(rest)
	case strings.HasPrefix(rest, "#;"):
		size = 2
		r.open = append(r.open, frame{})
	case rest[0] == ')' || rest[0] == ']':
		size = 1
		if !r.close(rest[0]) {
			return false
		}
	case r.full():
	default:
		size = r.begin(rest)
	}
	r.at += size
	return size > 0
}

// begin reads what a datum begins with; 0 if it is wrong.
func (r *stack) begin(rest string) int {
	switch {
	case rest[0] == '(' || rest[0] == '[':
		r.open = append(r.open, frame{end: map[byte]byte{'(': ')', '[': ']'}[rest[0]], d: list()})
		return 1
	case strings.HasPrefix(rest, ",@"):
		r.open = append(r.open, frame{name: "unquote-splicing"})
		return 2
	case rest[0] == '\'' || rest[0] == ',':
		r.open = append(r.open, frame{name: map[byte]string{'\'': "quote", ',': "unquote"}[rest[0]]})
		return 1
	}
	s := word.FindString(rest)
	if s == "." {
		if !r.dot() {
			return 0
		}
		return 1
	}
	switch {
	case s == "#t":
		r.put(boolean(true))
	case name.MatchString(s):
		r.put(sym(s))
	default:
		return 0
	}
	return len(s)
}

// all is what All answers.
func (r *stack) all() ([]api.Datum, int, api.Errno) {
	for r.at < len(r.text) {
		if !r.step() {
			return r.done, r.at, api.ErrRead
		}
	}
	if len(r.open) > 0 {
		return r.done, r.at, api.ErrRead
	}
	return r.done, r.at, api.OK
}

func TestSweep(t *testing.T) {
	parts := []string{"(", ")", "[", "]", ".", "'", ",", "@", "#", "|#", "#|", "#;", ";", "\n", " ", "a", "#t"}
	for _, s := range texts(4, parts...) {
		checkSweep(t, s)
	}
	for _, s := range texts(6, "(", ")", " . ", "'", "#;", "a ") {
		checkSweep(t, s)
	}
	for _, s := range texts(8, "#", "|", ";", "\n") {
		checkSweep(t, "(a "+s+"a)")
	}
}

// checkSweep holds All against the stack's, and the other calls against it.
func checkSweep(t *testing.T, s string) {
	t.Helper()
	r := stack{text: s}
	want, place, err := r.all()
	if place < len(s) && s[place] == '|' {
		return // a symbol between bars, of which the stack knows nothing
	}
	checkAll(t, s, want, place, err)
	begin, err := Skip(s, 0)
	if err != api.OK || begin == len(s) {
		// Read tells the same: it comes no further.
		checkWrong(t, s, 0, api.ErrRead, begin)
		return
	}
	if len(want) == 0 {
		checkWrong(t, s, 0, api.ErrRead, place)
		return
	}
	_, end, _ := Read(s, 0)
	checkRead(t, s, 0, want[0], end)
	checkRead(t, s, begin, want[0], end)
	checkRead(t, s[:end], 0, want[0], end)
}

var (
	insideString = regexp.MustCompile(`(?s)^(?:[^\\"]|\\[ntr\\"]|\\x[0-9a-fA-F]{1,2};|\\[ \t]*\n[ \t]*)*`)
	insideBars   = regexp.MustCompile(`(?s)^(?:[^\\|]|\\[ntr\\|]|\\x[0-9a-fA-F]{1,2};|\\[ \t]*\n[ \t]*)*`)
	escape       = regexp.MustCompile(`(?s)\\([ \t]*\n[ \t]*|x[0-9a-fA-F]+;|.)`)
)

// inside tells how long the longest begin of s is that may stand between these marks, and as what it is read.
func inside(s, mark string) (string, int) {
	may := insideString
	if mark == "|" {
		may = insideBars
	}
	begin := may.FindString(s)
	read := escape.ReplaceAllStringFunc(begin, func(m string) string {
		switch m[1] {
		case ' ', '\t', '\n':
			return ""
		case 'x':
			n, _ := strconv.ParseUint(m[2:len(m)-1], 16, 8)
			return string([]byte{byte(n)})
		case 'n':
			return "\n"
		case 't':
			return "\t"
		case 'r':
			return "\r"
		}
		return m[1:]
	})
	return read, len(begin)
}

func TestSweepInside(t *testing.T) {
	for _, s := range texts(4, `\`, "x", "4", "F", ";", "n", " ", "\n", `"`, "|", "q") {
		checkInside(t, s, `"`)
		checkInside(t, s, "|")
	}
	for _, s := range texts(6, `\`, "\t", " ", "\n", "r") {
		checkInside(t, s+`"`, `"`)
		checkInside(t, s+"|", "|")
	}
	for _, s := range texts(3, "x", "a", "A", "0", "9", "f", "F", "g", "G", ";", "é", "-") {
		checkInside(t, `\x`+s+`;"`, `"`)
		checkInside(t, `\`+s+`;|`, "|")
	}
}

// checkInside reads s behind a mark.
func checkInside(t *testing.T, s, mark string) {
	t.Helper()
	want, n := inside(s, mark)
	switch {
	case !strings.HasPrefix(s[n:], mark):
		checkWrong(t, mark+s, 0, api.ErrRead, 1+n)
	case mark == `"`:
		checkRead(t, mark+s, 0, str(want), n+2)
	case want == "":
		checkWrong(t, mark+s, 0, api.ErrRead, 0)
	default:
		checkRead(t, mark+s, 0, sym(want), n+2)
	}
}
