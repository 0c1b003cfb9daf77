package model

import (
	"math/big"
	"slices"
	"strconv"
	"strings"
	"testing"

	"pavane/api"
	"pavane/core"
	"pavane/expand"
)

// sorts are values of every sort: what reckons each, and what it is written as.
func sorts() []struct{ source, text string } {
	return []struct{ source, text string }{
		{"5", "5"}, {"0", "0"}, {"-7", "-7"}, {"#t", "#t"}, {"#f", "#f"}, {"'a", "a"}, {"'|b c|", "|b c|"}, {`"a"`, `"a"`}, {`""`, `""`}, {"'()", "()"}, {"(void)", "#v"},
		{"(cons 1 2)", "(1 . 2)"}, {"'(1 (2))", "(1 (2))"}, {"(lambda () 1)", "#p"}, {"(call/cc (lambda (V) V))", "#p"}, {"(box 1)", "#b"},
	}
}

// placed is a source whose variable V is another one in each place.
func placed(source string, place int) string {
	return strings.ReplaceAll(source, "V", "v"+strconv.Itoa(place))
}

// The numbers and arguments of the tests' own table are those of expand.
func TestPrimitiveNames(t *testing.T) {
	for i, name := range strings.Fields(numbered) {
		p, takes, ok := expand.Prim(name)
		if p != i+1 || takes != arity(p) || takes != core.Arity(p) || !ok {
			t.Errorf("%s: %d of %d, %t", name, p, takes, ok)
		}
	}
}

// isNumber, isPair and the others tell of what a value is written as what it is.
func isNumber(s string) bool { return strings.Contains("5 0 -7", s) }
func isPair(s string) bool   { return len(s) > 2 && s[0] == '(' }
func isString(s string) bool { return s[0] == '"' }
func isSymbol(s string) bool { return s == "a" || s == "|b c|" }

// aloneOf is what a primitive of one argument, of what is written so, comes to, by the chapter's words.
func aloneOf(name, s string) string {
	asked := func(b bool) string { return "#" + strconv.FormatBool(b)[:1] }
	typed := func(is bool, then string) string {
		if is {
			return then
		}
		return "error: type"
	}
	text := strings.Trim(s, `"|`)
	switch name {
	case "null?":
		return asked(s == "()")
	case "pair?":
		return asked(isPair(s))
	case "integer?":
		return asked(isNumber(s))
	case "symbol?":
		return asked(isSymbol(s))
	case "string?":
		return asked(isString(s))
	case "boolean?":
		return asked(s == "#t" || s == "#f")
	case "procedure?":
		return asked(s == "#p")
	case "not":
		return asked(s == "#f")
	case "car":
		return typed(isPair(s), "1")
	case "cdr":
		return typed(isPair(s), map[string]string{"(1 . 2)": "2", "(1 (2))": "((2))"}[s])
	case "string-length":
		return typed(isString(s), strconv.Itoa(len(text)))
	case "symbol->string":
		return typed(isSymbol(s), `"`+text+`"`)
	case "number->string":
		return typed(isNumber(s), `"`+s+`"`)
	case "write":
		return "#v | " + s
	case "display":
		return strings.TrimSuffix("#v | "+strings.Trim(s, `"|`), " | ")
	case "raise":
		return "error: raise " + s
	case "box":
		return "#b"
	case "unbox":
		return typed(s == "#b", "1")
	}
	panic("no primitive of one argument: " + name)
}

// P10.3: each primitive of one argument, of values of every sort.
func TestAlone(t *testing.T) {
	for i, name := range strings.Fields(numbered) {
		if arity(i+1) != 1 || name == "call/cc" {
			continue
		}
		for _, x := range sorts() {
			check(t, parsed(t, "("+name+" "+placed(x.source, 1)+")"), "", aloneOf(name, x.text))
		}
	}
}

// bothOf is what a primitive of two arguments, of what is written so, comes to.
func bothOf(name, a, b string) string {
	truth := map[bool]string{true: "#t", false: "#f"}
	x, _ := strconv.Atoi(a)
	y, _ := strconv.Atoi(b)
	switch name {
	case "cons":
		return joined(a, b)
	case "eq?":
		// Of each sort but strings an atom is itself; all else is another one each time.
		return truth[a == b && !isString(a) && !isPair(a) && a != "#p" && a != "#b"]
	case "set-car!", "set-cdr!":
		if isPair(a) {
			return "#v"
		}
	case "set-box!":
		if a == "#b" {
			return "#v"
		}
	case "string-append":
		if isString(a) && isString(b) {
			return `"` + strings.Trim(a, `"`) + strings.Trim(b, `"`) + `"`
		}
	case "string=?":
		if isString(a) && isString(b) {
			return truth[a == b]
		}
	case "apply":
		// None of the sorts can be called with no values, but the lambda; of a continuation that is one too few, of (1 (2)) one too many.
		if b == "()" || b == "(1 (2))" {
			return map[bool]string{true: "called", false: "error: type"}[a == "#p"]
		}
	default:
		switch {
		case !isNumber(a) || !isNumber(b):
		case y == 0 && (name == "quotient" || name == "remainder" || name == "modulo"):
			return "error: zero"
		default:
			return reckonedOf(name, x, y)
		}
	}
	return "error: type"
}

// joined is a pair of what is written so.
func joined(a, b string) string {
	switch {
	case b == "()":
		return "(" + a + ")"
	case isPair(b):
		return "(" + a + " " + b[1:]
	}
	return "(" + a + " . " + b + ")"
}

func reckonedOf(name string, x, y int) string {
	switch name {
	case "+":
		return strconv.Itoa(x + y)
	case "-":
		return strconv.Itoa(x - y)
	case "*":
		return strconv.Itoa(x * y)
	case "quotient":
		return strconv.Itoa(x / y)
	case "remainder":
		return strconv.Itoa(x % y)
	case "modulo":
		return new(big.Int).Sub(big.NewInt(int64(x)), new(big.Int).Mul(big.NewInt(int64(y)), floor(x, y))).String()
	case "=":
		return map[bool]string{true: "#t", false: "#f"}[x == y]
	}
	return map[bool]string{true: "#t", false: "#f"}[x < y]
}

func floor(x, y int) *big.Int {
	q := x / y
	if x%y != 0 && (x < 0) != (y < 0) {
		q--
	}
	return big.NewInt(int64(q))
}

// P10.3: each primitive of two arguments, of values of every sort in either place.
func TestBoth(t *testing.T) {
	for i, name := range strings.Fields(numbered) {
		if arity(i+1) != 2 {
			continue
		}
		for _, x := range sorts() {
			for _, y := range sorts() {
				want := bothOf(name, x.text, y.text)
				if want == "called" {
					want = "error: arity"
					if x.source == "(lambda () 1)" && y.text == "()" {
						want = "1"
					}
				}
				check(t, parsed(t, "("+name+" "+placed(x.source, 1)+" "+placed(y.source, 2)+")"), "", want)
			}
		}
	}
}

// P10.3: what takes no arguments.
func TestNone(t *testing.T) {
	checkAll(t, `
		(void) => #v
		(read-byte) => #f
	`)
	check(t, parsed(t, "(newline)"), "", "#v | \n")
	check(t, parsed(t, "(begin (write 'a) (newline))"), "", "#v | a\n")
}

// P10.3: eq? holds of a pair, a procedure, a continuation and a box, and itself, not of another one that is like it.
func TestEqOfThings(t *testing.T) {
	for _, x := range []string{"(cons 1 2)", "'(1)", "(lambda () 1)", "(lambda v9 v9)", "(call/cc (lambda (v8) v8))", "(box 1)"} {
		check(t, parsed(t, "(let v1 "+x+" (eq? v1 v1))"), "", "#t")
		check(t, parsed(t, "(let v1 (lambda () "+x+") (let v2 (v1) (let v3 v2 (eq? v2 v3))))"), "", "#t")
		check(t, parsed(t, "(let v1 (lambda () "+x+") (eq? (v1) (v1)))"), "", "#f")
		check(t, parsed(t, "(let v1 "+x+" (eq? v1 (car (cons v1 0))))"), "", "#t")
		check(t, parsed(t, "(let v1 "+x+" (eq? (unbox (box v1)) v1))"), "", "#t")
		check(t, parsed(t, "(let v1 "+x+" ((lambda v2 (eq? (car v2) v1)) v1))"), "", "#t")
		check(t, parsed(t, "(let v1 "+x+" (let v2 (let v3 (lambda () v1) (v3)) (begin (set! v1 5) (eq? v1 v2))))"), "", "#f")
	}
	checkAll(t, `
		(call/cc (lambda (v1) (call/cc (lambda (v2) (eq? v1 v2))))) => #f
		(let v1 (lambda () 1) (let v2 (lambda () 1) (eq? v1 v2))) => #f
		(let v1 (lambda (v2) (lambda () v2)) (eq? (v1 1) (v1 1))) => #f
		(let v1 (cons 1 2) (eq? v1 (cons (car v1) (cdr v1)))) => #f
		(let v1 (box 5) (eq? v1 (unbox v1))) => #f
		(let v1 (box 5) (eq? (unbox v1) 5)) => #t
		(let v1 (cons 1 '()) (eq? (cdr v1) '())) => #t
		(let v1 "a" (eq? v1 v1)) => #f
		(let v1 1000000000000000000000 (eq? v1 (* 1000000000000 1000000000))) => #t
		(eq? (void) (set-car! (cons 1 2) 3)) => #t
		(eq? (cons 1 2) (box 1)) => #f
		(eq? (lambda () 1) (call/cc (lambda (v1) v1))) => #f
	`)
}

// P10.3: what is put into a pair, or a box, is seen through all names of it.
func TestChanges(t *testing.T) {
	checkAll(t, `
		(let v1 (cons 1 2) (let v2 v1 (begin (set-car! v1 5) v2))) => (5 . 2)
		(let v1 (cons 1 2) (let v2 v1 (begin (set-cdr! v2 5) v1))) => (1 . 5)
		(let v1 (box 1) (let v2 v1 (begin (set-box! v1 5) (unbox v2)))) => 5
		(let v1 (cons 1 2) (let v2 (cons v1 v1) (begin (set-car! (car v2) 5) v2))) => ((5 . 2) 5 . 2)
		(let v1 (cons 1 2) ((lambda (v2) (begin (set-cdr! v2 '(3)) v1)) v1)) => (1 3)
		(let v1 (cons 1 2) (set-car! v1 v1)) => #v
		(let v1 (cons 1 2) (begin (set-car! v1 5) (begin (set-car! v1 6) (begin (set-cdr! v1 7) v1)))) => (6 . 7)
		(let v1 (box 1) (begin (set-box! v1 v1) (eq? (unbox v1) v1))) => #t
		(let v1 (box 1) (let v2 (lambda (v3) (set-box! v1 (+ (unbox v1) v3))) (begin (v2 5) (begin (v2 6) (unbox v1))))) => 12
		(let v1 '(1 2 3) (begin (set-cdr! (cdr v1) 9) v1)) => (1 2 . 9)
		(let v1 (lambda v2 (begin (set-car! v2 9) v2)) (v1 1 2)) => (9 2)
		(let v1 (cons 1 2) (let v2 (car v1) (begin (set-car! v1 5) v2))) => 1
	`)
}

// circles are pairs that contain themselves, as v1, and what is done with them.
func circles() []string {
	return []string{
		"(let v1 (cons 1 2) (begin (set-cdr! v1 v1) DONE))",
		"(let v1 (cons 1 2) (begin (set-car! v1 v1) DONE))",
		"(let v1 (cons 1 2) (begin (set-car! v1 v1) (begin (set-cdr! v1 v1) DONE)))",
		"(let v1 '(1 2 3) (begin (set-cdr! (cdr (cdr v1)) v1) DONE))",
		"(let v1 '(1 (2) 3) (begin (set-car! (car (cdr v1)) v1) DONE))",
		"(let v1 (cons 1 2) (let v2 (cons 3 v1) (begin (set-cdr! v1 v2) DONE)))",
	}
}

// A pair that contains itself goes on up to a thousand pairs: it cannot be written, and as a value it is "".
func TestCircles(t *testing.T) {
	for _, source := range circles() {
		for done, want := range map[string]string{
			"v1": "", "(begin (write 'x) v1)": " | x", "(cons 0 v1)": "", "(cons v1 0)": "", "(write v1)": "error: long", "(display v1)": "error: long", "(write (cons 0 v1))": "error: long",
			"(begin (write 'x) (write v1))": "error: long | x", "(raise v1)": "error: raise", "(begin (write 'x) (raise v1))": "error: raise | x",
			"(pair? v1)": "#t", "(eq? v1 v1)": "#t", "(box v1)": "#b", "(write (box v1))": "#v | #b", "(write (lambda () v1))": "#v | #p", "(null? v1)": "#f",
		} {
			check(t, parsed(t, strings.Replace(source, "DONE", done, 1)), "", want)
		}
	}
}

// chain is a list of n items, each of them x.
func chain(n int, x string) string {
	return "'(" + strings.TrimSuffix(strings.Repeat(x+" ", n), " ") + ")"
}

// P10.3, P10.4: a thousand pairs are written, one more is not, as they are counted as they are written.
func TestPairsWritten(t *testing.T) {
	for _, c := range []struct {
		source string
		pairs  int
	}{
		{chain(pairsMost, "0"), pairsMost}, {chain(pairsMost+1, "0"), pairsMost + 1}, {chain(1, "0"), 1}, {chain(pairsMost-1, "0"), pairsMost - 1},
		{"(cons 1 " + chain(pairsMost-1, "0") + ")", pairsMost}, {"(cons 1 " + chain(pairsMost, "0") + ")", pairsMost + 1}, {"(cons " + chain(pairsMost, "0") + " 1)", pairsMost + 1},
		{chain(pairsMost/2, "(0)"), pairsMost}, {chain(pairsMost/2, "(0)") + " ", pairsMost}, {chain(pairsMost/2+1, "(0)"), pairsMost + 2}, {chain(pairsMost/2, "(0 . 1)"), pairsMost},
		// A pair that stands in two places counts twice.
		{"(let v1 " + chain(pairsMost/2-1, "0") + " (cons v1 v1))", pairsMost - 1}, {"(let v1 " + chain(pairsMost/2, "0") + " (cons v1 v1))", pairsMost + 1},
		{"(let v1 " + chain(pairsMost/2-1, "0") + " (cons 1 (cons v1 v1)))", pairsMost}, {"(let v1 " + chain(pairsMost/4-1, "0") + " (let v2 (cons v1 v1) (cons v2 (cons v2 2))))", pairsMost},
		{"(let v1 (lambda (v2 v3 v4) (if (= v3 0) v4 (v2 v2 (- v3 1) (cons v4 '())))) (v1 v1 " + strconv.Itoa(pairsMost) + " 1))", pairsMost},
		{"(let v1 (lambda (v2 v3 v4) (if (= v3 0) v4 (v2 v2 (- v3 1) (cons v4 '())))) (v1 v1 " + strconv.Itoa(pairsMost+1) + " 1))", pairsMost + 1},
		{"(let v1 (lambda (v2 v3 v4) (if (= v3 0) v4 (v2 v2 (- v3 1) (cons 1 v4)))) (v1 v1 " + strconv.Itoa(pairsMost+1) + " 1))", pairsMost + 1},
	} {
		few := c.pairs <= pairsMost
		text := Run(parsed(t, strings.TrimSpace(c.source)), nil, enough)
		if text.Err != api.OK || (text.Value != "") != few {
			t.Errorf("%d pairs as the value: %v, %s", c.pairs, text.Err, cut(told(text)))
		}
		if few && strings.Count(text.Value, "(") != strings.Count(text.Value, ")") {
			t.Errorf("%d pairs: %s", c.pairs, text.Value)
		}
		raised := Run(primitive(api.PRaise, parsed(t, strings.TrimSpace(c.source))), nil, enough)
		if raised != (api.Outcome{Err: api.ErrRaise, Value: text.Value}) {
			t.Errorf("%d pairs raised: %s", c.pairs, cut(told(raised)))
		}
		for _, p := range []int{api.PWrite, api.PDisplay} {
			got := Run(seq(parsed(t, "(write 'x)"), primitive(p, parsed(t, strings.TrimSpace(c.source)))), nil, enough)
			want := api.Outcome{Value: "#v", Out: "x" + text.Value}
			if !few {
				want = api.Outcome{Err: api.ErrLong, Out: "x"}
			}
			if got != want {
				t.Errorf("%d pairs written by %d: %s, want %s", c.pairs, p, cut(told(got)), cut(told(want)))
			}
		}
	}
	if got := Run(parsed(t, chain(pairsMost, "0")), nil, 1); got.Value != chain(pairsMost, "0")[1:] {
		t.Errorf("%d pairs: %s", pairsMost, cut(told(got)))
	}
}

// P10.3: a value is written as chapter 4 says; what is no datum has a sign.
func TestWritten(t *testing.T) {
	for source, want := range map[string][2]string{
		`'(a "b" |c d| . "e")`:               {`(a "b" |c d| . "e")`, "(a b c d . e)"},
		`"a\"b\\"`:                           {`"a\"b\\"`, `a"b\`},
		`'|x|`:                               {"x", "x"},
		`'|(|`:                               {"|(|", "("},
		"(cons 1 (cons 2 '()))":              {"(1 2)", "(1 2)"},
		"(cons 1 (cons 2 3))":                {"(1 2 . 3)", "(1 2 . 3)"},
		"(cons '() '())":                     {"(())", "(())"},
		"(cons '(1 . 2) '(3 . 4))":           {"((1 . 2) 3 . 4)", "((1 . 2) 3 . 4)"},
		"(cons (lambda () 1) (lambda () 1))": {"(#p . #p)", "(#p . #p)"},
		"(cons (box 1) (cons (box 2) '()))":  {"(#b #b)", "(#b #b)"},
		"(cons (box 1) (box 2))":             {"(#b . #b)", "(#b . #b)"},
		"(cons (call/cc (lambda (v1) v1)) '(#t #f))": {"(#p #t #f)", "(#p #t #f)"},
		"(cons (void) (void))":                       {"(#v . #v)", "(#v . #v)"},
		"'(quote a)":                                 {"(quote a)", "(quote a)"},
		"(box (cons 1 2))":                           {"#b", "#b"},
		"-100000000000000000000":                     {"-100000000000000000000", "-100000000000000000000"},
	} {
		check(t, parsed(t, source), "", want[0])
		check(t, parsed(t, "(write "+source+")"), "", "#v | "+want[0])
		check(t, parsed(t, "(display "+source+")"), "", "#v | "+want[1])
		check(t, parsed(t, "(raise "+source+")"), "", "error: raise "+want[0])
	}
	check(t, parsed(t, `(write "a\nb\t")`), "", `#v | "a\nb\t"`)
	check(t, parsed(t, `(display "a\nb\t")`), "", "#v | a\nb\t")
	check(t, parsed(t, `(display "")`), "", "#v")
}

// filled writes n bytes, by as many strings as it needs, and then does more.
func filled(t *testing.T, n int, more ...string) api.Expr {
	row := []api.Expr{}
	for n > 0 {
		piece := min(n, 1024)
		row = append(row, parsed(t, `(display "`+strings.Repeat("x", piece)+`")`))
		n -= piece
	}
	for _, s := range more {
		row = append(row, parsed(t, s))
	}
	return seq(row...)
}

// P10.3: as many bytes as may be are written, and not one more; of what would be too long nothing is.
func TestBytesWritten(t *testing.T) {
	for _, c := range []struct {
		ahead int
		more  string
		err   api.Errno
		out   string
	}{
		{bytesMost, "5", api.OK, ""}, {bytesMost - 1, "(newline)", api.OK, "\n"}, {bytesMost, "(newline)", api.ErrLong, ""},
		{bytesMost - 1, "(write 1)", api.OK, "1"}, {bytesMost, "(write 1)", api.ErrLong, ""}, {bytesMost - 1, "(write 12)", api.ErrLong, ""}, {bytesMost - 2, "(write 12)", api.OK, "12"},
		{bytesMost - 4, `(write "ab")`, api.OK, `"ab"`}, {bytesMost - 3, `(write "ab")`, api.ErrLong, ""}, {bytesMost - 3, `(display "ab")`, api.OK, "ab"},
		{bytesMost - 2, `(display "ab")`, api.OK, "ab"}, {bytesMost - 1, `(display "ab")`, api.ErrLong, ""}, {bytesMost, `(display "")`, api.OK, ""},
		{bytesMost - 5, "(display '(a b))", api.OK, "(a b)"}, {bytesMost - 4, "(display '(a b))", api.ErrLong, ""},
		{bytesMost - 2, "(display (lambda () 1))", api.OK, "#p"}, {bytesMost - 1, "(display (lambda () 1))", api.ErrLong, ""},
		{bytesMost, "(car 5)", api.ErrType, ""}, {bytesMost, "(raise '(a))", api.ErrRaise, ""},
	} {
		got := Run(filled(t, c.ahead, c.more), nil, enough)
		if got.Err != c.err || got.Out != strings.Repeat("x", c.ahead)+c.out || (got.Value != "") != (c.err == api.OK || c.err == api.ErrRaise) {
			t.Errorf("%d bytes, then %s: %v, %q, %d bytes", c.ahead, c.more, got.Err, got.Value, len(got.Out))
		}
	}
	e, _ := longList()
	long := Run(primitive(api.PWrite, e), nil, enough)
	if long != (api.Outcome{Err: api.ErrLong}) {
		t.Errorf("more in one value: %s", cut(told(long)))
	}
}

// longList is a constant of few pairs that is written in more bytes than may be written, and what it is written as.
func longList() (api.Expr, string) {
	piece := strings.Repeat("y", 1000)
	items := slices.Repeat([]api.Datum{{Kind: api.Str, S: piece}}, 100)
	return constant(api.Datum{Kind: api.List, Items: items}), "(" + strings.TrimSuffix(strings.Repeat(`"`+piece+`" `, 100), " ") + ")"
}

// The value itself, and what is raised, may be longer than what is written.
func TestValuesMayBeLong(t *testing.T) {
	e, text := longList()
	if got := Run(e, nil, enough); got != (api.Outcome{Value: text}) {
		t.Errorf("a value of %d bytes: %s", len(text), cut(told(got)))
	}
	if got := Run(primitive(api.PRaise, e), nil, enough); got != (api.Outcome{Err: api.ErrRaise, Value: text}) {
		t.Errorf("%d bytes raised: %s", len(text), cut(told(got)))
	}
}

// P10.3: the input's bytes, one behind the other, as numbers; behind its end #f, again and again.
func TestRead(t *testing.T) {
	three := "(cons (read-byte) (cons (read-byte) (cons (read-byte) '())))"
	for input, want := range map[string]string{
		"": "(#f #f #f)", "a": "(97 #f #f)", "ab": "(97 98 #f)", "abc": "(97 98 99)", "abcd": "(97 98 99)",
		"\x00\xff\n": "(0 255 10)", "é": "(195 169 #f)", "\x80\x00": "(128 0 #f)",
	} {
		check(t, parsed(t, three), input, want)
	}
	loop := "(let v1 (lambda (v2 v3) (let v4 (read-byte) (if v4 (v2 v2 (+ v3 v4)) v3))) (v1 v1 0))"
	check(t, parsed(t, loop), strings.Repeat("\xff\x01", 2000), "512000")
	check(t, parsed(t, "(begin (read-byte) (begin (call/cc (lambda (v1) (begin (read-byte) (v1 0)))) (read-byte)))"), "abc", "99")
	check(t, parsed(t, "((lambda (v1 v2) (cons v1 v2)) (read-byte) (read-byte))"), "ab", "(97 . 98)")
	for _, input := range []string{"", "a"} {
		check(t, parsed(t, "(integer? (read-byte))"), input, map[string]string{"": "#f", "a": "#t"}[input])
	}
}

// P10.3: what call/cc is of is called with the continuation, if it can be.
func TestCallCC(t *testing.T) {
	checkAll(t, `
		(call/cc 5) => error: type
		(call/cc (write 1)) => error: type | 1
		(call/cc (cons 1 2)) => error: type
		(call/cc (box (lambda (v1) v1))) => error: type
		(call/cc (raise 1)) => error: raise 1
		(call/cc (lambda (v1) (write v1))) => #v | #p
		(call/cc (lambda (v1) (procedure? v1))) => #t
		(call/cc (lambda (v1) (begin (write 1) (raise v1)))) => error: raise #p | 1
	`)
}

// P10.3: apply, of lists and of what is none.
func TestApply(t *testing.T) {
	most, more := strconv.Itoa(itemsMost), chain(itemsMost+1, "0")
	count := "(lambda v1 (let v2 (lambda (v3 v4 v5) (if (null? v4) v5 (v3 v3 (cdr v4) (+ v5 1)))) (v2 v2 v1 0)))"
	full := chain(itemsMost, "0")
	dotted := strings.TrimSuffix(full, ")") + " . 0)"
	checkAll(t, `
		(apply (lambda () 5) '()) => 5
		(apply (lambda v1 v1) '()) => ()
		(apply (lambda v1 v1) '(1 2 3)) => (1 2 3)
		(apply (lambda (v1 v2) (cons v2 v1)) '(1 2)) => (2 . 1)
		(apply (lambda (v1 v2) v1) '(1)) => error: arity
		(apply (lambda (v1 v2) v1) '(1 2 3)) => error: arity
		(apply (lambda (v1 . v2) v2) '()) => error: arity
		(apply (lambda (v1 . v2) v2) '(1)) => ()
		(apply 5 '(1)) => error: type
		(apply (lambda v1 v1) 5) => error: type
		(apply (lambda v1 v1) (void)) => error: type
		(apply (lambda v1 v1) "") => error: type
		(apply (lambda v1 v1) (lambda v2 v2)) => error: type
		(apply (lambda v1 v1) (box '())) => error: type
		(apply (lambda v1 v1) '(1 . 2)) => error: type
		(apply (lambda v1 v1) '(1 2 3 . 4)) => error: type
		(apply (lambda v1 v1) (cons 1 (box '()))) => error: type
		(apply (lambda () (raise 'called)) '(1 . 2)) => error: type
		(let v1 '(1 2 3) (begin (set-cdr! (cdr v1) v1) (apply (lambda v2 v2) v1))) => error: long
		(let v1 '(1) (begin (set-cdr! v1 v1) (apply 5 v1))) => error: long
		(let v1 (lambda (v2) (apply v2 (cons v2 '()))) (v1 (lambda (v3) (if (procedure? v3) 'yes 'no)))) => yes
		(+ 1 (apply (lambda (v1) (* v1 2)) '(5))) => 11
	`)
	check(t, parsed(t, "(apply "+count+" "+full+")"), "", most)
	check(t, parsed(t, "(apply "+count+" "+more+")"), "", "error: long")
	check(t, parsed(t, "(apply (lambda () 1) "+full+")"), "", "error: arity")
	check(t, parsed(t, "(apply (lambda () 1) "+more+")"), "", "error: long")
	check(t, parsed(t, "(apply 5 "+full+")"), "", "error: type")
	check(t, parsed(t, "(apply 5 "+more+")"), "", "error: long")
	check(t, parsed(t, "(apply 5 "+dotted+")"), "", "error: type")
	check(t, parsed(t, "(apply 5 (cons 0 "+dotted+"))"), "", "error: long")
	check(t, parsed(t, "(apply "+count+" "+dotted+")"), "", "error: type")
	// A call itself may have more values.
	check(t, call(append([]api.Expr{parsed(t, count)}, slices.Repeat([]api.Expr{parsed(t, "0")}, itemsMost+5)...)...), "", strconv.Itoa(itemsMost+5))
}

// power is 2 to the n, and more, in digits.
func power(n uint, more int64) string {
	x := new(big.Int).Lsh(big.NewInt(1), n)
	return x.Add(x, big.NewInt(more)).String()
}

// P10.3: prim's Plain primitives with their own errors, each of which comes behind ErrType.
func TestPlain(t *testing.T) {
	largest := power(2048, -1)
	for source, want := range map[string]string{
		"(+ MAX 0)": largest, "(+ MAX 1)": "error: long", "(- MAX 1)": power(2048, -2), "(- MAX -1)": "error: long", "(* MAX 2)": "error: long", "(* MAX -1)": "-" + largest,
		"(- (- 0 MAX) 1)": "error: long", "(* MAX MAX)": "error: long", "(+ MAX 'a)": "error: type", "(* (box 1) MAX)": "error: type", "(quotient MAX MAX)": "1",
		"(quotient 1 0)": "error: zero", "(remainder 1 0)": "error: zero", "(modulo 1 0)": "error: zero", "(quotient MAX 0)": "error: zero", "(quotient 0 0)": "error: zero",
		"(quotient 'a 0)": "error: type", "(quotient (cons 1 2) 0)": "error: type", "(modulo (lambda () 1) 0)": "error: type", "(remainder (box 0) 0)": "error: type", "(modulo 0 (box 0))": "error: type",
		"(= MAX MAX)": "#t", "(< MAX (- MAX 1))": "#f", "(string-length (number->string MAX))": strconv.Itoa(len(largest)),
		"(string-append LONG \"\")": `"` + strings.Repeat("s", 1024) + `"`, "(string-append LONG \"t\")": "error: long", "(string-append LONG (box 1))": "error: type", "(string-append (cons 1 2) LONG)": "error: type",
		"(string-append LONG 'a)": "error: type", "(string-length LONG)": "1024", "(string=? LONG LONG)": "#t", "(eq? LONG LONG)": "#f",
		"(modulo -7 2)": "1", "(quotient -7 2)": "-3", "(remainder -7 2)": "-1", `(symbol->string 'abc)`: `"abc"`, "(number->string -50)": `"-50"`,
		`(string=? "a" "b")`: "#f", `(string=? (string-append "a" "b") "ab")`: "#t",
	} {
		source = strings.ReplaceAll(source, "MAX", largest)
		source = strings.ReplaceAll(source, "LONG", `"`+strings.Repeat("s", 1024)+`"`)
		check(t, parsed(t, source), "", want)
	}
	check(t, parsed(t, "(let v1 (lambda (v2 v3) (v2 v2 (* v3 10))) (v1 v1 1))"), "", "error: long")
}
