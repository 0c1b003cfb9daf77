package model

import (
	"slices"
	"strconv"
	"strings"
	"testing"

	"pavane/api"
	"pavane/core"
	"pavane/expand"
	"pavane/reader"
)

// The document's numbers, not the package's: a bound that is moved must be seen.
const (
	pairsMost = 1000
	itemsMost = 1000
	bytesMost = 65536

	// enough is more steps than any run takes that should come to an end.
	enough = 1000000
)

// numbered are the names of the primitives in the order of the document's section 'Words', and takes how many arguments each takes.
const (
	numbered = "+ - * quotient remainder modulo = < cons car cdr set-car! set-cdr! null? pair? integer? symbol? string? boolean? procedure? eq? not string-length string-append string=? symbol->string number->string write display newline read-byte raise call/cc apply box unbox set-box! void"
	takes    = "22222222211221111111211221111001121120"
)

// arity is how many arguments the primitive of that number takes, by the table above.
func arity(p int) int { return int(takes[p-1] - '0') }

// primitiveOf is the number of the primitive of that name, 0 of none.
func primitiveOf(name string) int {
	return slices.Index(strings.Fields(numbered), name) + 1
}

func constant(d api.Datum) api.Expr { return api.Expr{Kind: api.ExConst, D: d} }

func variableOf(v int) api.Expr { return api.Expr{Kind: api.ExVar, V: v} }

func primitive(p int, kids ...api.Expr) api.Expr {
	return api.Expr{Kind: api.ExPrim, P: p, Kids: kids}
}

func call(kids ...api.Expr) api.Expr { return api.Expr{Kind: api.ExCall, Kids: kids} }

func seq(kids ...api.Expr) api.Expr {
	if len(kids) == 1 {
		return kids[0]
	}
	return api.Expr{Kind: api.ExSeq, Kids: []api.Expr{kids[0], seq(kids[1:]...)}}
}

func lambda(rest bool, vars []int, body api.Expr) api.Expr {
	return api.Expr{Kind: api.ExLambda, Vars: vars, Rest: rest, Kids: []api.Expr{body}}
}

// parsed is the expression that a text is of: v1 is a variable, 'x or a number, a string, a truth a constant, a list whose first is the name of a primitive is of that, and (set! v1 x), (if a b c), (lambda (v1 . v2) x), (let v1 x y), (begin x y ..) are what they say; all other lists are calls.
func parsed(t *testing.T, s string) api.Expr {
	t.Helper()
	d, end, err := reader.Read(s, 0)
	if err != api.OK || end != len(s) {
		t.Fatalf("%s: %v at %d", cut(s), err, end)
	}
	return exprOf(d)
}

func exprOf(d api.Datum) api.Expr {
	switch {
	case d.Kind == api.Sym:
		return variableOf(number(d.S))
	case d.Kind != api.List || len(d.Items) == 0:
		return constant(d)
	}
	l := d.Items
	switch head := l[0].S; head {
	case "quote":
		return constant(l[1])
	case "set!":
		return api.Expr{Kind: api.ExSet, V: number(l[1].S), Kids: exprsOf(l[2:])}
	case "if":
		return api.Expr{Kind: api.ExIf, Kids: exprsOf(l[1:])}
	case "let":
		return api.Expr{Kind: api.ExLet, V: number(l[1].S), Kids: exprsOf(l[2:])}
	case "begin":
		return seq(exprsOf(l[1:])...)
	case "lambda":
		var vars []int
		if l[1].Kind == api.Sym {
			return lambda(true, []int{number(l[1].S)}, exprOf(l[2]))
		}
		for _, x := range slices.Concat(l[1].Items, l[1].Tail) {
			vars = append(vars, number(x.S))
		}
		return lambda(len(l[1].Tail) > 0, vars, exprOf(l[2]))
	default:
		if p := primitiveOf(head); p > 0 && l[0].Kind == api.Sym {
			return primitive(p, exprsOf(l[1:])...)
		}
	}
	return call(exprsOf(l)...)
}

func exprsOf(l []api.Datum) []api.Expr {
	var out []api.Expr
	for _, d := range l {
		out = append(out, exprOf(d))
	}
	return out
}

// number is that of a variable's name: v, and the digits.
func number(name string) int {
	n, err := strconv.Atoi(strings.TrimPrefix(name, "v"))
	if err != nil || !strings.HasPrefix(name, "v") {
		panic("no variable: " + name)
	}
	return n
}

// program is the expression that a program of the language is made into.
func program(t *testing.T, source string) api.Expr {
	t.Helper()
	l, place, err := reader.All(source)
	if err != api.OK {
		t.Fatalf("%s: %v at %d", source, err, place)
	}
	e, which, err := expand.Program(l)
	if err != api.OK {
		t.Fatalf("%s: %v in %d", source, err, which)
	}
	return e
}

// told is an outcome as a text: the value, or the error, and what was raised; and what was written behind it, where something was.
func told(o api.Outcome) string {
	out := o.Value
	if o.Err != api.OK {
		out = strings.TrimSpace("error: " + o.Err.Error() + " " + o.Value)
	}
	if o.Out != "" {
		out += " | " + o.Out
	}
	return out
}

// cut is s, or what is enough of it to be told.
func cut(s string) string {
	if len(s) > 200 {
		return s[:200] + ".. of " + strconv.Itoa(len(s))
	}
	return s
}

// lines are those of a text that have something in them.
func lines(s string) []string {
	return slices.DeleteFunc(strings.Split(s, "\n"), func(line string) bool { return strings.TrimSpace(line) == "" })
}

// checkAll holds how the expression of each line ends against what stands behind its =>.
func checkAll(t *testing.T, table string) {
	t.Helper()
	for _, line := range lines(table) {
		source, want, found := strings.Cut(strings.TrimSpace(line), " => ")
		if !found {
			t.Fatalf("no => in %s", line)
		}
		check(t, parsed(t, source), "", want)
	}
}

// check holds how e ends with that input, and fuel enough, against what it should; and with as many steps as it takes, and with one less.
func check(t *testing.T, e api.Expr, input string, want string) {
	t.Helper()
	if !core.Closed(e) {
		t.Fatalf("not Closed: %s", cut(core.Write(e)))
	}
	got := Run(e, []byte(input), enough)
	if told(got) != want {
		t.Errorf("%s: %s, want %s", cut(core.Write(e)), cut(told(got)), cut(want))
	}
	steps, ok := Steps(e, []byte(input), enough)
	if !ok || steps < 1 || steps > enough {
		t.Fatalf("Steps of %s: %d, %t", cut(core.Write(e)), steps, ok)
	}
	if just := Run(e, []byte(input), steps); just != got {
		t.Errorf("%s with %d steps: %s, want %s", cut(core.Write(e)), steps, cut(told(just)), cut(told(got)))
	}
	less := Run(e, []byte(input), steps-1)
	if less.Err != api.ErrFuel || less.Value != "" || !strings.HasPrefix(got.Out, less.Out) {
		t.Errorf("%s with %d steps: %s, want %v", cut(core.Write(e)), steps-1, cut(told(less)), api.ErrFuel)
	}
}

// checkSteps holds how many steps e takes against what it should.
func checkSteps(t *testing.T, e api.Expr, want int) {
	t.Helper()
	for _, most := range []int{want, want + 1, enough} {
		if got, ok := Steps(e, nil, most); got != want || !ok {
			t.Errorf("Steps of %s, %d: %d, %t, want %d", cut(core.Write(e)), most, got, ok, want)
		}
	}
	for _, most := range []int{want - 1, 0, -1} {
		if got, ok := Steps(e, nil, most); got != 0 || ok {
			t.Errorf("Steps of %s, %d: %d, %t, want 0, false", cut(core.Write(e)), most, got, ok)
		}
	}
}
