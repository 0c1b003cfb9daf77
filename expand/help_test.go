package expand

import (
	"slices"
	"strconv"
	"strings"
	"testing"

	"pavane/api"
	"pavane/datum"
	"pavane/reader"
	"pavane/write"
)

const (
	// The document's numbers, not the package's: a bound that is moved must be seen.
	mostDeep        = 200
	mostExpressions = 5000
	mostMacros      = 2000
	greatestNumber  = 1000000
)

// numbered are the names of the primitives in the order of the document's section 'Words'.
var numbered = strings.Fields(`+ - * quotient remainder modulo = < cons car cdr set-car! set-cdr! null? pair? integer? symbol? string? boolean? procedure? eq? not string-length string-append string=? symbol->string number->string write display newline read-byte raise call/cc apply box unbox set-box! void`)

// program is the data of that text; #v in it is Nothing, which no text is read as.
func program(t *testing.T, s string) []api.Datum {
	t.Helper()
	l, _, err := reader.All(strings.ReplaceAll(s, "#v", "|nothing at all|"))
	if err != api.OK {
		t.Fatalf("%q is no data: %v", s, err)
	}
	return withNothings(l)
}

func withNothings(l []api.Datum) []api.Datum {
	for i := range l {
		if l[i].Kind == api.Sym && l[i].S == "nothing at all" {
			l[i] = api.Datum{}
		}
		withNothings(l[i].Items)
		withNothings(l[i].Tail)
	}
	return l
}

// one is the only datum of that text.
func one(t *testing.T, s string) api.Datum {
	t.Helper()
	l := program(t, s)
	if len(l) != 1 {
		t.Fatalf("%q is %d data", s, len(l))
	}
	return l[0]
}

// shown is an expression as chapter 8 writes it, but for constants, which are shown as 'x, and primitives, which have their names.
func shown(e api.Expr) string {
	parts := []string{}
	switch e.Kind {
	case api.ExConst:
		return "'" + write.Write(e.D)
	case api.ExVar:
		return shownVariable(e.V)
	case api.ExSet:
		parts = []string{"set!", shownVariable(e.V)}
	case api.ExIf:
		parts = []string{"if"}
	case api.ExLambda:
		parts = []string{"lambda", shownFormals(e)}
	case api.ExPrim:
		parts = []string{"%" + shownPrimitive(e.P)}
	case api.ExLet:
		parts = []string{"let", shownVariable(e.V)}
	case api.ExSeq:
		parts = []string{"begin"}
	case api.ExCall:
	default:
		return "?"
	}
	for _, kid := range e.Kids {
		parts = append(parts, shown(kid))
	}
	return "(" + strings.Join(parts, " ") + ")"
}

func shownVariable(v int) string { return "v" + strconv.Itoa(v) }

func shownPrimitive(p int) string {
	if p < 1 || p > len(numbered) {
		return "?"
	}
	return numbered[p-1]
}

func shownFormals(e api.Expr) string {
	var vars []string
	for _, v := range e.Vars {
		vars = append(vars, shownVariable(v))
	}
	if e.Rest && len(vars) == 1 {
		return vars[0]
	}
	if e.Rest {
		vars = slices.Insert(vars, max(0, len(vars)-1), ".")
	}
	return "(" + strings.Join(vars, " ") + ")"
}

// made is the expression of that program, which must have one that may be.
func made(t *testing.T, s string) api.Expr {
	t.Helper()
	e, at, err := Program(program(t, s))
	if at != 0 || err != api.OK {
		t.Errorf("Program of %s: %d, %v", s, at, err)
	}
	if wrong := wrongIn(e); wrong != "" {
		t.Errorf("Program of %s: %s, in which %s", s, shown(e), wrong)
	}
	return e
}

func check(t *testing.T, s, want string) {
	t.Helper()
	if got := shown(made(t, s)); got != want {
		t.Errorf("Program of %s:\n%s, want\n%s", s, got, want)
	}
}

// checkAll checks rows of a program and its expression.
func checkAll(t *testing.T, rows [][2]string) {
	t.Helper()
	for _, row := range rows {
		check(t, row[0], row[1])
	}
}

func checkWrong(t *testing.T, s string, at int, err api.Errno) {
	t.Helper()
	checkWrongData(t, s, program(t, s), at, err)
}

// checkAllWrong checks that each of these programs has that error in its first datum.
func checkAllWrong(t *testing.T, err api.Errno, programs ...string) {
	t.Helper()
	for _, s := range programs {
		checkWrong(t, s, 0, err)
	}
}

func checkWrongData(t *testing.T, what string, l []api.Datum, at int, err api.Errno) {
	t.Helper()
	e, gotAt, got := Program(l)
	if gotAt != at || got != err || !isZero(e) {
		t.Errorf("Program of %s: %s, %d, %v, want %d, %v", what, shown(e), gotAt, got, at, err)
	}
}

// isZero: e has nothing but fields that are zero, or empty lists.
func isZero(e api.Expr) bool {
	return e.Kind == 0 && isEmpty(e.D) && e.V == 0 && len(e.Vars) == 0 && !e.Rest && e.P == 0 && len(e.Kids) == 0
}

func isEmpty(d api.Datum) bool {
	return d.Kind == 0 && !d.I.Neg && len(d.I.L) == 0 && !d.B && d.S == "" && len(d.Items) == 0 && len(d.Tail) == 0
}

// wrongIn is why e is not Good, or not Closed, as chapter 8 says it; "" if it is.
func wrongIn(e api.Expr) string {
	count := 0
	bound := map[int]int{}
	wrong := wrongInside(e, nil, bound, &count)
	for v, times := range bound {
		if wrong == "" && (v < 1 || v > greatestNumber || times > 1) {
			wrong = shownVariable(v) + " is bound that may not be"
		}
	}
	if wrong == "" && count > mostExpressions {
		wrong = "there are too many expressions"
	}
	return wrong
}

func wrongInside(e api.Expr, around []int, bound map[int]int, count *int) string {
	*count++
	if wrong := wrongAlone(e); wrong != "" {
		return wrong + ": " + shown(e)
	}
	inside := around
	switch e.Kind {
	case api.ExVar, api.ExSet:
		if !slices.Contains(around, e.V) {
			return shownVariable(e.V) + " is free"
		}
	case api.ExLambda:
		inside = slices.Concat(around, e.Vars)
		for _, v := range e.Vars {
			bound[v]++
		}
	case api.ExLet:
		inside = append(slices.Clone(around), e.V)
		bound[e.V]++
	}
	for i, kid := range e.Kids {
		scope := inside
		if e.Kind == api.ExLet && i == 0 {
			scope = around
		}
		if wrong := wrongInside(kid, scope, bound, count); wrong != "" {
			return wrong
		}
	}
	return ""
}

// wrongAlone is why e is not Good, but for its Kids.
func wrongAlone(e api.Expr) string {
	kids, rest := -1, e
	rest.Kind, rest.Kids = 0, nil
	switch e.Kind {
	case api.ExConst:
		kids, rest.D = 0, api.Datum{}
		if !datum.Good(e.D) {
			return "a constant is not Good"
		}
	case api.ExVar:
		kids, rest.V = 0, 0
	case api.ExSet:
		kids, rest.V = 1, 0
	case api.ExIf:
		kids = 3
	case api.ExLambda:
		kids, rest.Vars, rest.Rest = 1, nil, false
		if e.Rest && len(e.Vars) == 0 {
			return "there is no variable for the rest"
		}
	case api.ExCall:
		kids = max(1, len(e.Kids))
	case api.ExPrim:
		rest.P = 0
		if e.P >= 1 && e.P <= len(numbered) {
			kids = takes(numbered[e.P-1])
		}
	case api.ExLet:
		kids, rest.V = 2, 0
	case api.ExSeq:
		kids = 2
	}
	if len(e.Kids) != kids || !isZero(rest) {
		return "there is what may not be"
	}
	return ""
}

// takes is how many arguments a primitive takes.
func takes(name string) int {
	for count, names := range []string{
		"newline read-byte void",
		"car cdr null? pair? integer? symbol? string? boolean? procedure? not string-length symbol->string number->string write display raise call/cc box unbox",
		"+ - * quotient remainder modulo = < cons set-car! set-cdr! eq? string-append string=? apply set-box!",
	} {
		if slices.Contains(strings.Fields(names), name) {
			return count
		}
	}
	return -1
}

// repeated is that text so many times, with a blank behind each.
func repeated(s string, times int) string {
	return strings.Repeat(s+" ", times)
}
