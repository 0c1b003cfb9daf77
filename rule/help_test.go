package rule

import (
	"slices"
	"strconv"
	"strings"
	"testing"

	"pavane/api"
	"pavane/core"
	"pavane/model"
	"pavane/reader"
)

const (
	// The document's numbers, not the package's: a bound that is moved must be seen.
	mostItems = 5000
	greatest  = 1000000

	// fresh is above all variables of the tests' tables.
	fresh = 50

	// enough is more steps than any run takes that should come to an end.
	enough = 200000
)

// numbered are the names of the primitives in the order of the document's section 'Words', takes how many arguments each takes, and which of them the chapters say to be Plain (*), Pure (p) or both (+), and Idle.
const (
	numbered = "+ - * quotient remainder modulo = < cons car cdr set-car! set-cdr! null? pair? integer? symbol? string? boolean? procedure? eq? not string-length string-append string=? symbol->string number->string write display newline read-byte raise call/cc apply box unbox set-box! void"
	takes    = "22222222211221111111211221111001121120"
	does     = "++++++++.....++++++p+++*+**..........p"
	idles    = "........*....*********............*..*"
)

// arity is how many arguments the primitive of that number takes, by the table above.
func arity(p int) int { return int(takes[p-1] - '0') }

func isPure(p int) bool { return strings.Contains("+p", does[p-1:p]) }

func isPlain(p int) bool { return strings.Contains("+*", does[p-1:p]) }

// primitiveOf is the number of the primitive of that name, 0 of none.
func primitiveOf(name string) int {
	return slices.Index(strings.Fields(numbered), name) + 1
}

func constant(d api.Datum) api.Expr { return api.Expr{Kind: api.ExConst, D: d} }

func variableOf(v int) api.Expr { return api.Expr{Kind: api.ExVar, V: v} }

func numeral(n uint32) api.Expr {
	return constant(api.Datum{Kind: api.Num, I: api.Int{L: []uint32{n}}})
}

func primitive(p int, kids ...api.Expr) api.Expr {
	return api.Expr{Kind: api.ExPrim, P: p, Kids: kids}
}

func call(kids ...api.Expr) api.Expr { return api.Expr{Kind: api.ExCall, Kids: kids} }

func seq(kids ...api.Expr) api.Expr {
	if len(kids) == 1 {
		return kids[0]
	}
	return api.Expr{Kind: api.ExSeq, Kids: []api.Expr{kids[0], seq(kids[1:]...)}}
}

func lambda(rest bool, vars []int, body api.Expr) api.Expr {
	return api.Expr{Kind: api.ExLambda, Vars: vars, Rest: rest, Kids: []api.Expr{body}}
}

func choice(test, yes, no api.Expr) api.Expr {
	return api.Expr{Kind: api.ExIf, Kids: []api.Expr{test, yes, no}}
}

func bind(v int, is, in api.Expr) api.Expr {
	return api.Expr{Kind: api.ExLet, V: v, Kids: []api.Expr{is, in}}
}

// parsed is the expression that a text is of: v1 is a variable, 'x or a number, a string, a truth a constant, nothing the constant of no datum, a list whose first is the name of a primitive is of that, and (set! v1 x), (if a b c), (lambda (v1 . v2) x), (let v1 x y), (begin x y ..) are what they say; all other lists are calls.
func parsed(t *testing.T, s string) api.Expr {
	t.Helper()
	d, end, err := reader.Read(s, 0)
	if err != api.OK || end != len(s) {
		t.Fatalf("%s: %v at %d", cut(s), err, end)
	}
	return exprOf(d)
}

func exprOf(d api.Datum) api.Expr {
	switch {
	case d.Kind == api.Sym && d.S == "nothing":
		return constant(api.Datum{})
	case d.Kind == api.Sym:
		return variableOf(number(d.S))
	case d.Kind != api.List || len(d.Items) == 0:
		return constant(d)
	}
	l := d.Items
	switch head := l[0].S; head {
	case "quote":
		return constant(l[1])
	case "set!":
		return api.Expr{Kind: api.ExSet, V: number(l[1].S), Kids: exprsOf(l[2:])}
	case "if":
		return api.Expr{Kind: api.ExIf, Kids: exprsOf(l[1:])}
	case "let":
		return api.Expr{Kind: api.ExLet, V: number(l[1].S), Kids: exprsOf(l[2:])}
	case "begin":
		return seq(exprsOf(l[1:])...)
	case "lambda":
		var vars []int
		if l[1].Kind == api.Sym {
			return lambda(true, []int{number(l[1].S)}, exprOf(l[2]))
		}
		for _, x := range slices.Concat(l[1].Items, l[1].Tail) {
			vars = append(vars, number(x.S))
		}
		return lambda(len(l[1].Tail) > 0, vars, exprOf(l[2]))
	default:
		if p := primitiveOf(head); p > 0 && l[0].Kind == api.Sym {
			return primitive(p, exprsOf(l[1:])...)
		}
	}
	return call(exprsOf(l)...)
}

func exprsOf(l []api.Datum) []api.Expr {
	var out []api.Expr
	for _, d := range l {
		out = append(out, exprOf(d))
	}
	return out
}

// number is that of a variable's name: v, and the digits.
func number(name string) int {
	n, err := strconv.Atoi(strings.TrimPrefix(name, "v"))
	if err != nil || !strings.HasPrefix(name, "v") {
		panic("no variable: " + name)
	}
	return n
}

// named are the rules' names, in the chapter's order.
const named = "fold branch drop unused copy beta inline again not float ahead known lift"

// stepOf is the step of a text: a rule's name, N and no, where they are asked for.
func stepOf(text string) Step {
	words := strings.Fields(text)
	s := Step{Rule: slices.Index(strings.Fields(named), words[0]) + 1}
	for _, word := range words[1:] {
		if word == "no" {
			s.No = true
			continue
		}
		n, err := strconv.Atoi(word)
		if err != nil {
			panic(text)
		}
		s.N = n
	}
	return s
}

// asksN: the rule is one of those that say which one.
func asksN(rule int) bool {
	return rule == Inline || rule == Again || rule == Known || rule == Lift
}

// lines are those of a text that have something in them.
func lines(s string) []string {
	return slices.DeleteFunc(strings.Split(s, "\n"), func(line string) bool { return strings.TrimSpace(line) == "" })
}

// cut is s, or what is enough of it to be told.
func cut(s string) string {
	if len(s) > 200 {
		return s[:200] + ".. of " + strconv.Itoa(len(s))
	}
	return s
}

func text(e api.Expr) string { return cut(core.Write(e)) }

func stepText(s Step) string {
	name := strconv.Itoa(s.Rule)
	if names := strings.Fields(named); s.Rule >= 1 && s.Rule <= len(names) {
		name = names[s.Rule-1]
	}
	return name + " " + strconv.Itoa(s.N) + " " + strconv.FormatBool(s.No)
}

// exactly: a and b have the same in every field; nil is an empty list.
func exactly(a, b api.Expr) bool {
	return a.Kind == b.Kind && exactlyDatum(a.D, b.D) && a.V == b.V && slices.Equal(a.Vars, b.Vars) && a.Rest == b.Rest &&
		a.P == b.P && slices.EqualFunc(a.Kids, b.Kids, exactly)
}

func exactlyDatum(a, b api.Datum) bool {
	return a.Kind == b.Kind && a.I.Neg == b.I.Neg && slices.Equal(a.I.L, b.I.L) && a.B == b.B && a.S == b.S &&
		slices.EqualFunc(a.Items, b.Items, exactlyDatum) && slices.EqualFunc(a.Tail, b.Tail, exactlyDatum)
}

func isZero(e api.Expr) bool { return exactly(e, api.Expr{}) }

// checkHere holds what each line's expression becomes by the line's step against what stands behind its =>: an expression, or no.
func checkHere(t *testing.T, table string) {
	t.Helper()
	for _, line := range lines(table) {
		how, rest, ok := strings.Cut(strings.TrimSpace(line), ": ")
		source, want, found := strings.Cut(rest, " => ")
		if !ok || !found {
			t.Fatalf("not a line of a table: %s", line)
		}
		x, s := parsed(t, source), stepOf(how)
		if want == "no" {
			checkNo(t, x, s)
			continue
		}
		checkYes(t, x, s, parsed(t, want))
	}
}

func checkNo(t *testing.T, x api.Expr, s Step) {
	t.Helper()
	for _, s := range likeIt(s) {
		if got, ok := Here(x, s, fresh); ok || !isZero(got) {
			t.Errorf("Here of %s by %s: %s, %t, want none", text(x), stepText(s), text(got), ok)
		}
	}
	e := closed(x)
	s.Path = []int{0}
	if May(e) {
		if got, err := Apply(e, s); err != api.ErrProof || !isZero(got) {
			t.Errorf("Apply of %s by %s: %s, %v, want %v", text(e), stepText(s), text(got), err, api.ErrProof)
		}
	}
}

// checkYes holds what x becomes against want; and, in a lambda that binds what is free in x, what Apply makes, and what the two mean.
func checkYes(t *testing.T, x api.Expr, s Step, want api.Expr) {
	t.Helper()
	for _, s := range likeIt(s) {
		got, ok := Here(x, s, fresh)
		if !ok || !exactly(got, want) {
			t.Errorf("Here of %s by %s: %s, %t, want %s", text(x), stepText(s), text(got), ok, text(want))
		}
	}
	e := closed(x)
	if !May(e) {
		return
	}
	s.Path = []int{0}
	made, err := Apply(e, s)
	if err != api.OK || !core.Alike(made, closedBy(want, e.Vars)) {
		t.Errorf("Apply of %s by %s: %s, %v", text(e), stepText(s), text(made), err)
	}
	if len(e.Vars) == 0 {
		meansTheSame(t, x, made.Kids[0], s)
	}
}

// likeIt are s and steps that differ from it in what its rule doesn't ask for.
func likeIt(s Step) []Step {
	out := []Step{s}
	pathed := s
	pathed.Path = []int{0, -1, 7}
	out = append(out, pathed)
	if !asksN(s.Rule) {
		for _, n := range []int{-1, 1, 2, 1 << 40} {
			other := s
			other.N = n
			out = append(out, other)
		}
	}
	if s.Rule != Known {
		other := s
		other.No = !s.No
		out = append(out, other)
	}
	return out
}

// closed is a lambda of what is free in x, around it.
func closed(x api.Expr) api.Expr { return closedBy(x, core.Free(x)) }

func closedBy(x api.Expr, vars []int) api.Expr { return lambda(false, vars, x) }

// meansTheSame holds how b ends against how a ends.
func meansTheSame(t *testing.T, a, b api.Expr, s Step) api.Outcome {
	t.Helper()
	if !May(b) {
		t.Fatalf("%s by %s: not May: %s", text(a), stepText(s), text(b))
	}
	was, is := model.Run(a, []byte("x\x00y"), enough/100), model.Run(b, []byte("x\x00y"), enough/100)
	if was.Err == api.ErrFuel && is.Err != api.ErrFuel {
		was = model.Run(a, []byte("x\x00y"), enough)
	}
	if is.Err == api.ErrFuel && was.Err != api.ErrFuel {
		is = model.Run(b, []byte("x\x00y"), enough)
	}
	if was.Err == api.ErrFuel && is.Err == api.ErrFuel {
		return was
	}
	if was != is {
		t.Errorf("%s by %s is %s: %v %s %q, was %v %s %q", text(a), stepText(s), text(b), is.Err, cut(is.Value), cut(is.Out), was.Err, cut(was.Value), cut(was.Out))
	}
	return was
}

// chain is x in expressions one in another, so many in all.
func chain(deep int, x api.Expr) api.Expr {
	for range deep - core.Size(x) {
		x = primitive(api.PNot, x)
	}
	return x
}

// row is a call of n expressions in all.
func row(n int) api.Expr {
	e := api.Expr{Kind: api.ExCall, Kids: make([]api.Expr, n-1)}
	for i := range e.Kids {
		e.Kids[i] = numeral(uint32(i + 1))
	}
	return e
}

// ring is an expression of that Kind that holds itself, wide times.
func ring(kind, p, wide int) api.Expr {
	l := make([]api.Expr, wide)
	for i := range l {
		l[i] = api.Expr{Kind: kind, P: p, V: 1, Kids: l}
	}
	return l[0]
}

// doubled is an expression whose two Kids are one, and so on: few lists, and more expressions than can be gone through.
func doubled(deep int, x api.Expr) api.Expr {
	for range deep {
		x = api.Expr{Kind: api.ExSeq, Kids: []api.Expr{x, x}}
	}
	return x
}
