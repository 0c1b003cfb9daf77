package expand

import (
	"strings"
	"testing"

	"pavane/api"
)

func TestPrim(t *testing.T) {
	if len(numbered) != api.PVoid {
		t.Fatalf("%d names", len(numbered))
	}
	for i, name := range numbered {
		p, n, ok := Prim(name)
		if p != i+1 || n != takes(name) || !ok {
			t.Errorf("Prim(%q): %d, %d, %t, want %d, %d, true", name, p, n, ok, i+1, takes(name))
		}
	}
	some := map[string]int{
		"+": api.PAdd, "-": api.PSub, "=": api.PEq, "<": api.PLess, "eq?": api.PEqQ, "integer?": api.PNumQ, "procedure?": api.PProcQ,
		"set-cdr!": api.PSetCdr, "string=?": api.PStrEq, "string-append": api.PStrApp, "symbol->string": api.PSymStr, "number->string": api.PNumStr,
		"read-byte": api.PRead, "call/cc": api.PCallCC, "apply": api.PApply, "box": api.PBox, "unbox": api.PUnbox, "set-box!": api.PSetBox, "void": api.PVoid,
	}
	for name, want := range some {
		if p, _, _ := Prim(name); p != want {
			t.Errorf("Prim(%q): %d, want %d", name, p, want)
		}
	}
}

func TestNoPrim(t *testing.T) {
	for _, name := range []string{
		"", " ", "\x00", "quote", "lambda", "if", "set!", "begin", "define", "define-syntax", "let-syntax", "letrec-syntax", "let", "let*", "letrec", "and", "or", "cond", "do", "else", "...", "_",
		"CAR", "Car", "car ", " car", "car\x00", "car\x001", "ca", "cars", "++", "%1", "1", ">", "<=", "/", "number?", "list", "eqv?", "equal?", "call-with-current-continuation", "syntax-rules", "v1", "set-box", "\xff", strings.Repeat("+", 100000),
	} {
		if p, n, ok := Prim(name); p != 0 || n != 0 || ok {
			t.Errorf("Prim(%q): %d, %d, %t, want none", name, p, n, ok)
		}
	}
}

func TestStrip(t *testing.T) {
	long := strings.Repeat("ab\xff", 100000)
	for _, row := range [][2]string{
		{"", ""}, {"a", "a"}, {"car", "car"}, {"a b", "a b"}, {"\xff\xfe", "\xff\xfe"}, {"0", "0"}, {`a\x0;1`, `a\x0;1`}, {"ä", "ä"}, {"\x01", "\x01"},
		{"\x00", ""}, {"\x00a", ""}, {"\x001", ""}, {"\x00\x00", ""},
		{"a\x00", "a"}, {"a\x001", "a"}, {"a b\x0012", "a b"}, {"a\x00b", "a"}, {"\x01\x00", "\x01"},
		{"a\x001\x002", "a"}, {"a\x00\x00b", "a"}, {"ab\x00cd\x00ef\x00", "ab"}, {"\x00a\x00", ""},
		{long, long}, {long + "\x00" + long, long}, {"\x00" + long, ""},
	} {
		if got := Strip(row[0]); got != row[1] {
			t.Errorf("Strip(%.20q): %.20q, want %.20q", row[0], got, row[1])
		}
	}
}

// arguments are so many constants, each with a blank ahead: 1, 2, ..
func arguments(n int) (string, string) {
	var given, want strings.Builder
	for i := range n {
		digit := string(rune('1' + i))
		given.WriteString(" " + digit)
		want.WriteString(" '" + digit)
	}
	return given.String(), want.String()
}

func TestPrimitivesCalled(t *testing.T) {
	for _, name := range numbered {
		for n := range 5 {
			given, want := arguments(n)
			s := "(" + name + given + ")"
			switch {
			case n == takes(name):
				check(t, s, "(%"+name+want+")")
			case name != "+" && name != "-" && name != "*":
				checkWrong(t, s, 0, api.ErrSyntax)
			}
		}
		checkWrong(t, "("+name+" . 1)", 0, api.ErrSyntax)
		checkWrong(t, "("+name+" 1 . 2)", 0, api.ErrSyntax)
	}
	checkAll(t, [][2]string{
		{"(+)", "'0"},
		{"(*)", "'1"},
		{"(+ 5)", "'5"},
		{"(* 5)", "'5"},
		{"(+ (+ car))", "(lambda (v1) (%car v1))"},
		{"(- 5)", "(%- '0 '5)"},
		{"(+ 1 2 3)", "(%+ (%+ '1 '2) '3)"},
		{"(* 1 2 3)", "(%* (%* '1 '2) '3)"},
		{"(- 1 2 3)", "(%- (%- '1 '2) '3)"},
		{"(- 1 2 3 4)", "(%- (%- (%- '1 '2) '3) '4)"},
		{"(+ (* 1 2) (- 3) (+) (*))", "(%+ (%+ (%+ (%* '1 '2) (%- '0 '3)) '0) '1)"},
		{"(+ car cdr cons)", "(%+ (%+ (lambda (v1) (%car v1)) (lambda (v2) (%cdr v2))) (lambda (v3 v4) (%cons v3 v4)))"},
	})
	checkAllWrong(t, api.ErrSyntax, "(-)", "(- . 1)", "(= 1 2 3)", "(< 1)", "(quotient 1 2 3)", "(string-append)", `(string-append "a")`, "(void 1)", "(newline 1)")
	// How many there are is looked at ahead of what they are.
	checkAllWrong(t, api.ErrSyntax, "(car zzz zzz)", "(cons zzz)", "(void zzz)", "(car)")
	checkAllWrong(t, api.ErrBound, "(car zzz)", "(+ 1 2 zzz (if))", "(- zzz)", "(cons zzz (if))")
	checkAllWrong(t, api.ErrSyntax, "(+ 1 2 (if) zzz)", "(cons (if) zzz)")
}

func TestPrimitivesNotCalled(t *testing.T) {
	for _, name := range numbered {
		want := []string{"(lambda () (%" + name + "))", "(lambda (v1) (%" + name + " v1))", "(lambda (v1 v2) (%" + name + " v1 v2))"}[takes(name)]
		check(t, name, want)
		check(t, "("+"(begin "+name+"))", "("+want+")")
	}
	checkAll(t, [][2]string{
		{"(lambda (x) (x car x +))", "(lambda (v1) (v1 (lambda (v2) (%car v2)) v1 (lambda (v3 v4) (%+ v3 v4))))"},
		{"(if car void (quote car))", "(if (lambda (v1) (%car v1)) (lambda () (%void)) 'car)"},
		{"car car", "(begin (lambda (v1) (%car v1)) (lambda (v2) (%car v2)))"},
	})
}
