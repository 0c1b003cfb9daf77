package core

import (
	"slices"
	"testing"

	"pavane/api"
)

func TestBoxes(t *testing.T) {
	cases := []struct{ e, want string }{
		// without an ExSet
		{"v1", "v1"},
		{"(quote (set! v1 v1))", "(quote (set! v1 v1))"},
		{"(lambda (v1 . v2) (let v3 v1 (v3 v2)))", "(lambda (v1 . v2) (let v3 v1 (v3 v2)))"},
		// a lambda's
		{"(lambda (v1) (set! v1 v1))", "(lambda (v1) (let v2 (%35 v1) (%37 v2 (%36 v2))))"},
		{"(lambda (v5) (set! v5 (quote 1)))", "(lambda (v5) (let v6 (%35 v5) (%37 v6 (quote 1))))"},
		{"(lambda (v1 v2) (set! v2 v1))", "(lambda (v1 v2) (let v3 (%35 v2) (%37 v3 v1)))"},
		{"(lambda (v1 v2) (set! v1 (set! v2 v1)))", "(lambda (v1 v2) (let v3 (%35 v1) (let v4 (%35 v2) (%37 v3 (%37 v4 (%36 v3))))))"},
		{"(lambda (v9 v2 v7) (begin (set! v7 v2) (set! v9 v7)))", "(lambda (v9 v2 v7) (let v10 (%35 v9) (let v11 (%35 v7) (begin (%37 v11 v2) (%37 v10 (%36 v11))))))"},
		{"(lambda v1 (set! v1 v1))", "(lambda v1 (let v2 (%35 v1) (%37 v2 (%36 v2))))"},
		{"(lambda (v1 . v2) (set! v2 (v1 v2)))", "(lambda (v1 . v2) (let v3 (%35 v2) (%37 v3 (v1 (%36 v3)))))"},
		{"(lambda (v1 . v2) (set! v1 (v1 v2)))", "(lambda (v1 . v2) (let v3 (%35 v1) (%37 v3 ((%36 v3) v2))))"},
		{"(lambda (v1) (lambda () (begin (set! v1 v1) v1)))", "(lambda (v1) (let v2 (%35 v1) (lambda () (begin (%37 v2 (%36 v2)) (%36 v2)))))"},
		{"(lambda (v1) ((lambda (v2) (set! v2 v1)) (set! v1 v1)))", "(lambda (v1) (let v3 (%35 v1) ((lambda (v2) (let v4 (%35 v2) (%37 v4 (%36 v3)))) (%37 v3 (%36 v3)))))"},
		{"((lambda (v2) (set! v2 v2)) (lambda (v1) (set! v1 v1)))", "((lambda (v2) (let v3 (%35 v2) (%37 v3 (%36 v3)))) (lambda (v1) (let v4 (%35 v1) (%37 v4 (%36 v4)))))"},
		// a let's
		{"(let v1 (quote 5) (set! v1 v1))", "(let v1 (%35 (quote 5)) (%37 v1 (%36 v1)))"},
		{"(let v1 v2 (begin (set! v1 (quote 6)) (%1 v1 v2)))", "(let v1 (%35 v2) (begin (%37 v1 (quote 6)) (%1 (%36 v1) v2)))"},
		{"(let v1 (let v2 v3 (set! v2 v2)) (set! v1 v3))", "(let v1 (%35 (let v2 (%35 v3) (%37 v2 (%36 v2)))) (%37 v1 v3))"},
		{"(let v1 (quote 5) (lambda (v2) (set! v1 (set! v2 v1))))", "(let v1 (%35 (quote 5)) (lambda (v2) (let v3 (%35 v2) (%37 v1 (%37 v3 (%36 v1))))))"},
		{"(let v1 (quote nothing) (let v2 (quote nothing) (begin (set! v1 (lambda () v2)) (begin (set! v2 v1) (v1)))))",
			"(let v1 (%35 (quote nothing)) (let v2 (%35 (quote nothing)) (begin (%37 v1 (lambda () (%36 v2))) (begin (%37 v2 (%36 v1)) ((%36 v1))))))"},
		// bound and never set
		{"(lambda (v1 v2) (begin (set! v3 v1) v2))", "(lambda (v1 v2) (begin (set! v3 v1) v2))"},
		{"(let v1 v2 (set! v3 v1))", "(let v1 v2 (set! v3 v1))"},
		// free
		{"(set! v1 v1)", "(set! v1 v1)"},
		{"(begin (set! v7 v7) (lambda (v1) (set! v1 v7)))", "(begin (set! v7 v7) (lambda (v1) (let v8 (%35 v1) (%37 v8 v7))))"},
		// free somewhere, too
		{"(begin v1 (lambda (v1) (set! v1 v1)))", "(begin v1 (lambda (v1) (set! v1 v1)))"},
		{"(begin (lambda (v1) (set! v1 v1)) (set! v1 v2))", "(begin (lambda (v1) (set! v1 v1)) (set! v1 v2))"},
		{"(begin (set! v1 v2) (lambda (v1) v1))", "(begin (set! v1 v2) (lambda (v1) v1))"},
		{"(let v1 v1 (set! v1 v1))", "(let v1 v1 (set! v1 v1))"},
		{"(let v1 (set! v1 v2) v1)", "(let v1 (set! v1 v2) v1)"},
		{"(let v1 v1 (lambda (v2) (set! v1 (set! v2 v1))))", "(let v1 v1 (lambda (v2) (let v3 (%35 v2) (set! v1 (%37 v3 v1)))))"},
		// above all of e, also of variables that stand nowhere, or are free
		{"(lambda (v1 v8) (set! v1 v1))", "(lambda (v1 v8) (let v9 (%35 v1) (%37 v9 (%36 v9))))"},
		{"(lambda (v1) (set! v1 v20))", "(lambda (v1) (let v21 (%35 v1) (%37 v21 v20)))"},
		{"(lambda (v1) (let v30 (set! v1 v1) v20))", "(lambda (v1) (let v31 (%35 v1) (let v30 (%37 v31 (%36 v31)) v20)))"},
		{"(begin (set! v40 v2) (lambda (v1) (set! v1 v1)))", "(begin (set! v40 v2) (lambda (v1) (let v41 (%35 v1) (%37 v41 (%36 v41)))))"},
		{"(lambda (v999998 v999999) (set! v999998 v999998))", "(lambda (v999998 v999999) (let v1000000 (%35 v999998) (%37 v1000000 (%36 v1000000))))"},
		{"(let v1000000 v1 (set! v1000000 v1000000))", "(let v1000000 (%35 v1) (%37 v1000000 (%36 v1000000)))"},
		{"(lambda (v1000000) (let v1 v1000000 (set! v1 v1)))", "(lambda (v1000000) (let v1 (%35 v1000000) (%37 v1 (%36 v1))))"},
		// all other Kinds are gone through
		{"(lambda (v1) (if (set! v1 v1) (%38) (v1 (%9 v1 (quote 1)))))", "(lambda (v1) (let v2 (%35 v1) (if (%37 v2 (%36 v2)) (%38) ((%36 v2) (%9 (%36 v2) (quote 1))))))"},
	}
	for _, c := range cases {
		e := withNothing(ex(c.e))
		got, err := Boxes(e)
		if err != api.OK || !exactly(got, withNothing(ex(c.want))) {
			t.Errorf("Boxes of %s: %s, %v, want %s", c.e, Write(got), err, c.want)
		}
	}
}

// withNothing is e in which constants that are the symbol nothing are Nothing.
func withNothing(e api.Expr) api.Expr {
	if e.D.S == "nothing" {
		e.D = api.Datum{}
	}
	for i := range e.Kids {
		e.Kids[i] = withNothing(e.Kids[i])
	}
	return e
}

func TestBoxesErrors(t *testing.T) {
	for i, e := range slices.Concat(bads(), longs(), endless()) {
		if got, err := Boxes(e); err != api.ErrArg || !isZeroExpr(got) {
			t.Errorf("Boxes of bad expression %d: %v: %s", i, err, mostly(e))
		}
	}
	for _, s := range []string{
		"(lambda (v1000000) (set! v1000000 v1))",
		"(lambda (v1) (set! v1 v1000000))",
		"(lambda (v1 v1000000) (set! v1 v1))",
		"(lambda (v1 v2) (begin (set! v1 v1) (set! v2 v999999)))",
	} {
		if got, err := Boxes(ex(s)); err != api.ErrLong || !isZeroExpr(got) {
			t.Errorf("Boxes of %s: %s, %v", s, Write(got), err)
		}
	}
}

// What comes out has at most MaxItems expressions: an ExVar has one more, an ExSet one more, a lambda that has a box three more.
func TestBoxesLimits(t *testing.T) {
	calls := func(vars, others int) api.Expr {
		e := ex("(lambda (v1) (begin (set! v1 v2) (v2)))")
		call := &e.Kids[0].Kids[1]
		call.Kids = slices.Concat(slices.Repeat(exs("v1"), vars), slices.Repeat(exs("v2"), others))
		return e
	}
	// Beside the call's there are 5 expressions, of which 9 are made.
	for _, c := range []struct {
		vars, others int
		want         api.Errno
	}{
		{2495, 1, api.OK}, {2495, 2, api.ErrLong}, {2496, 0, api.ErrLong}, {1, 4989, api.OK}, {1, 4990, api.ErrLong}, {0, 4991, api.OK}, {0, 4992, api.ErrLong}, {4995, 0, api.ErrLong}, {4996, 0, api.ErrArg},
	} {
		e := calls(c.vars, c.others)
		got, err := Boxes(e)
		if err != c.want || (err == api.OK) != Good(got) {
			t.Errorf("Boxes of %d and %d variables, %d expressions: %v, %d expressions", c.vars, c.others, nodes(e), err, nodes(got))
		}
		if err != api.OK && !isZeroExpr(got) {
			t.Errorf("Boxes of %d and %d variables tells something beside %v", c.vars, c.others, err)
		}
	}
}
