package opt

import (
	"slices"
	"strconv"
	"strings"
	"testing"

	"pavane/api"
	"pavane/core"
	"pavane/model"
	"pavane/proof"
	"pavane/reader"
	"pavane/rule"
)

const (
	// The document's numbers, not the package's: a bound that is moved must be seen.
	most      = 200
	mostItems = 5000
	greatest  = 1000000
	looksAt   = 100000
	looksDeep = 10000

	// enough is more fuel than any run takes that should come to an end.
	enough = 200000
)

// numbered are the names of the primitives in the order of the document's section 'Words'.
const numbered = "+ - * quotient remainder modulo = < cons car cdr set-car! set-cdr! null? pair? integer? symbol? string? boolean? procedure? eq? not string-length string-append string=? symbol->string number->string write display newline read-byte raise call/cc apply box unbox set-box! void"

// named are the rules' names, in the order of their chapter.
const named = "fold branch drop unused copy beta inline again not float ahead known lift"

func constant(d api.Datum) api.Expr { return api.Expr{Kind: api.ExConst, D: d} }

func variableOf(v int) api.Expr { return api.Expr{Kind: api.ExVar, V: v} }

func numeral(n uint32) api.Expr {
	return constant(api.Datum{Kind: api.Num, I: api.Int{L: []uint32{n}}})
}

func call(kids ...api.Expr) api.Expr { return api.Expr{Kind: api.ExCall, Kids: kids} }

func seq(kids ...api.Expr) api.Expr {
	if len(kids) == 1 {
		return kids[0]
	}
	return api.Expr{Kind: api.ExSeq, Kids: []api.Expr{kids[0], seq(kids[1:]...)}}
}

func primitive(p int, kids ...api.Expr) api.Expr {
	return api.Expr{Kind: api.ExPrim, P: p, Kids: kids}
}

// parsed is the expression that a text is of: v1 is a variable, 'x or a number, a string, a truth a constant, a list whose first is the name of a primitive is of that, and (set! v1 x), (if a b c), (lambda (v1 . v2) x), (let v1 x y), (begin x y ..) are what they say; all other lists are calls.
func parsed(t *testing.T, s string) api.Expr {
	t.Helper()
	d, end, err := reader.Read(s, 0)
	if err != api.OK || end != len(s) {
		t.Fatalf("%s: %v at %d", s, err, end)
	}
	return exprOf(d)
}

func exprOf(d api.Datum) api.Expr {
	switch {
	case d.Kind == api.Sym:
		return variableOf(number(d.S))
	case d.Kind != api.List || len(d.Items) == 0:
		return constant(d)
	}
	l := d.Items
	switch head := l[0].S; head {
	case "quote":
		return constant(l[1])
	case "set!":
		return api.Expr{Kind: api.ExSet, V: number(l[1].S), Kids: exprsOf(l[2:])}
	case "if":
		return api.Expr{Kind: api.ExIf, Kids: exprsOf(l[1:])}
	case "let":
		return api.Expr{Kind: api.ExLet, V: number(l[1].S), Kids: exprsOf(l[2:])}
	case "begin":
		return seq(exprsOf(l[1:])...)
	case "lambda":
		var vars []int
		for _, x := range slices.Concat(l[1].Items, l[1].Tail) {
			vars = append(vars, number(x.S))
		}
		return api.Expr{Kind: api.ExLambda, Vars: vars, Rest: len(l[1].Tail) > 0, Kids: exprsOf(l[2:])}
	default:
		if p := slices.Index(strings.Fields(numbered), head) + 1; p > 0 && l[0].Kind == api.Sym {
			return primitive(p, exprsOf(l[1:])...)
		}
	}
	return call(exprsOf(l)...)
}

func exprsOf(l []api.Datum) []api.Expr {
	var out []api.Expr
	for _, d := range l {
		out = append(out, exprOf(d))
	}
	return out
}

// number is that of a variable's name: v, and the digits.
func number(name string) int {
	n, err := strconv.Atoi(strings.TrimPrefix(name, "v"))
	if err != nil || !strings.HasPrefix(name, "v") {
		panic("no variable: " + name)
	}
	return n
}

// stepsOf are the steps of a text, with ; between: a rule's name, N and no, where they are asked for, and at and the path, if there is one; - is no steps.
func stepsOf(text string) []rule.Step {
	if strings.TrimSpace(text) == "-" {
		return nil
	}
	var out []rule.Step
	for one := range strings.SplitSeq(text, ";") {
		how, path, _ := strings.Cut(one, " at ")
		words := strings.Fields(how)
		s := rule.Step{Rule: slices.Index(strings.Fields(named), words[0]) + 1, Path: numbersOf(path)}
		for _, word := range words[1:] {
			if word == "no" {
				s.No = true
			} else {
				s.N = numbersOf(word)[0]
			}
		}
		out = append(out, s)
	}
	return out
}

func numbersOf(s string) []int {
	var out []int
	for _, word := range strings.Fields(s) {
		n, err := strconv.Atoi(word)
		if err != nil {
			panic(s)
		}
		out = append(out, n)
	}
	return out
}

// lines are those of a text that have something in them.
func lines(s string) []string {
	var out []string
	for line := range strings.Lines(s) {
		if line = strings.TrimSpace(line); line != "" {
			out = append(out, line)
		}
	}
	return out
}

func text(e api.Expr) string {
	s := core.Write(e)
	if len(s) > 200 {
		return s[:200] + ".. of " + strconv.Itoa(len(s))
	}
	return s
}

func stepsText(l []rule.Step) string {
	var out []string
	for i, s := range l {
		if i == 40 {
			out = append(out, ".. of "+strconv.Itoa(len(l)))
			break
		}
		name := strconv.Itoa(s.Rule)
		if names := strings.Fields(named); s.Rule >= 1 && s.Rule <= len(names) {
			name = names[s.Rule-1]
		}
		for _, place := range s.Path {
			name += "." + strconv.Itoa(place)
		}
		out = append(out, name+" "+strconv.Itoa(s.N)+" "+strconv.FormatBool(s.No))
	}
	return strings.Join(out, "; ")
}

// exactly: a and b have the same in every field; nil is an empty list.
func exactly(a, b api.Expr) bool {
	return a.Kind == b.Kind && exactlyDatum(a.D, b.D) && a.V == b.V && slices.Equal(a.Vars, b.Vars) && a.Rest == b.Rest &&
		a.P == b.P && slices.EqualFunc(a.Kids, b.Kids, exactly)
}

func exactlyDatum(a, b api.Datum) bool {
	return a.Kind == b.Kind && a.I.Neg == b.I.Neg && slices.Equal(a.I.L, b.I.L) && a.B == b.B && a.S == b.S &&
		slices.EqualFunc(a.Items, b.Items, exactlyDatum) && slices.EqualFunc(a.Tail, b.Tail, exactlyDatum)
}

func exactlySteps(a, b []rule.Step) bool {
	return slices.EqualFunc(a, b, func(a, b rule.Step) bool {
		return a.Rule == b.Rule && slices.Equal(a.Path, b.Path) && a.N == b.N && a.No == b.No
	})
}

// inOrder are the rules without an N, in the chapter's order.
const inOrder = "fold branch not beta copy drop unused float ahead"

// inTurn are all steps of x that the chapter names, in its order, without a path; Inline alone has something asked of it.
func inTurn(x api.Expr) []rule.Step {
	out := stepsOf(strings.ReplaceAll(inOrder, " ", ";"))
	for i := range x.Kids {
		out = append(out, rule.Step{Rule: rule.Lift, N: i + 1})
	}
	if x.Kind == api.ExLet && everyUse(x.Kids[1], x.V) == 1 && everyCall(x.Kids[1], x.V) == 1 {
		out = append(out, stepsOf("inline 1")...)
	}
	return append(out, stepsOf("again 1; known 1; known 1 no")...)
}

// everyUse is how often a variable stands in e, in which it is bound nowhere.
func everyUse(e api.Expr, v int) int {
	n := 0
	for _, kid := range e.Kids {
		n += everyUse(kid, v)
	}
	if e.Kind == api.ExVar && e.V == v {
		n++
	}
	return n
}

func everyCall(e api.Expr, v int) int {
	n := 0
	for _, kid := range e.Kids {
		n += everyCall(kid, v)
	}
	if e.Kind == api.ExCall && e.Kids[0].Kind == api.ExVar && e.Kids[0].V == v {
		n++
	}
	return n
}

// everyPlace are the paths of e and of all in it, outer ones first and from the left.
func everyPlace(e api.Expr) [][]int {
	out := [][]int{nil}
	for i, kid := range e.Kids {
		for _, path := range everyPlace(kid) {
			out = append(out, append([]int{i}, path...))
		}
	}
	return out
}

// other is what Next should say of what is May, put plainly, and what the step makes.
func other(e api.Expr) (rule.Step, api.Expr, bool) {
	for _, path := range everyPlace(e) {
		x, _ := core.At(e, path)
		for _, s := range inTurn(x) {
			// Apply asks Here again; most places are left out faster so.
			if _, ok := rule.Here(x, s, greatest); !ok {
				continue
			}
			s.Path = path
			if made, err := rule.Apply(e, s); err == api.OK {
				return s, made, true
			}
		}
	}
	return rule.Step{}, api.Expr{}, false
}

// others are the steps that Steps should tell of what is May, and all that comes out of them, e first.
func others(e api.Expr, n int) ([]rule.Step, []api.Expr) {
	var l []rule.Step
	became := []api.Expr{e}
	for len(l) < n {
		s, made, ok := other(e)
		if !ok {
			break
		}
		e = made
		l, became = append(l, s), append(became, e)
	}
	return l, became
}

// checkNext holds Next, and one step of Steps and Optimize, against the step that it should tell; none if there is none.
func checkNext(t *testing.T, e api.Expr, want []rule.Step) {
	t.Helper()
	s, ok := Next(e)
	if ok != (len(want) > 0) || ok && !exactlySteps([]rule.Step{s}, want) || !ok && !exactlySteps([]rule.Step{s}, []rule.Step{{}}) {
		t.Errorf("Next of %s: %s, %t, want %s", text(e), stepsText([]rule.Step{s}), ok, stepsText(want))
	}
	checkSteps(t, e, 1, want)
}

// checkSteps holds Steps and Optimize against the steps that they should tell. What comes out is what rule's Apply makes of them; it is accepted, and means the same.
func checkSteps(t *testing.T, e api.Expr, n int, want []rule.Step) api.Expr {
	t.Helper()
	if l := Steps(e, n); !exactlySteps(l, want) {
		t.Errorf("Steps of %s, %d: %s, want %s", text(e), n, stepsText(l), stepsText(want))
	}
	made := e
	for _, s := range want {
		next, err := rule.Apply(made, s)
		if err != api.OK {
			t.Fatalf("Apply to %s by %s: %v", text(made), stepsText([]rule.Step{s}), err)
		}
		made = next
	}
	got, p := Optimize(e, n)
	if !exactly(got, made) || !exactly(p.Claim, made) || !exactlySteps(p.Steps, want) {
		t.Errorf("Optimize of %s, %d: %s, claims %s by %s, want %s by %s", text(e), n, text(got), text(p.Claim), stepsText(p.Steps), text(made), stepsText(want))
	}
	if !rule.May(e) {
		return got
	}
	if checked, ok := proof.Check(e, p); !ok || !exactly(checked, made) {
		t.Errorf("Check of %s and Optimize's proof: %s, %t, want %s", text(e), text(checked), ok, text(made))
	}
	meansTheSame(t, e, got)
	return got
}

// meansTheSame holds how b ends against how a ends, with fuel enough.
func meansTheSame(t *testing.T, a, b api.Expr) {
	t.Helper()
	input := []byte("x\x00y")
	was, is := model.Run(a, input, enough), model.Run(b, input, enough)
	if was.Err == api.ErrFuel && is.Err == api.ErrFuel {
		return
	}
	if was != is {
		t.Errorf("%s became %s: %v, was %v", text(a), text(b), is, was)
	}
}

// ring is an expression of that Kind that holds itself, wide times.
func ring(kind, wide int) api.Expr {
	l := make([]api.Expr, wide)
	for i := range l {
		l[i] = api.Expr{Kind: kind, P: api.PNot, V: 1, Kids: l}
	}
	return l[0]
}

// doubled is an expression whose two Kids are one, and so on: few lists, and more expressions than can be gone through.
func doubled(deep int, x api.Expr) api.Expr {
	for range deep {
		x = seq(x, x)
	}
	return x
}

// nots is x in so many nots.
func nots(deep int, x api.Expr) api.Expr {
	for range deep {
		x = primitive(api.PNot, x)
	}
	return x
}

// begins is x behind so many constants.
func begins(n int, x api.Expr) api.Expr {
	for range n {
		x = seq(numeral(7), x)
	}
	return x
}

// row is a call of these, and of as many constants as make it n expressions in all.
func row(n int, kids ...api.Expr) api.Expr {
	e := call(kids...)
	for range n - core.Size(e) {
		e.Kids = append(e.Kids, numeral(1))
	}
	return e
}

// odd are expressions that are not May, of all sorts: such as are not Good, not closed, set something, are too great, or need not end.
func odd(t *testing.T) []api.Expr {
	three := numeral(3)
	unnamed := three
	unnamed.V = 1
	return []api.Expr{
		{}, {Kind: -1}, {Kind: 10}, {Kind: api.ExIf}, {Kind: api.ExConst, Kids: []api.Expr{three}}, {Kind: api.ExPrim, P: 39, Kids: []api.Expr{three}},
		unnamed, constant(api.Datum{Kind: 9}), constant(api.Datum{Kind: api.Num, I: api.Int{L: []uint32{3, 0}}}), constant(api.Datum{Kind: api.Num, I: api.Int{Neg: true}}),
		variableOf(1), variableOf(0), parsed(t, "(lambda (v1) v2)"), parsed(t, "(begin (let v1 2 v1) (let v1 2 v1))"), parsed(t, "(let v1 2 (set! v1 3))"),
		parsed(t, "(begin (+ 1 2) (set! v1 3))"), parsed(t, "(+ 1)"), parsed(t, "(let v1000001 2 3)"),
		row(mostItems + 1), ring(api.ExSeq, 2), ring(api.ExPrim, 1), ring(api.ExCall, 100000), doubled(60, three),
	}
}
