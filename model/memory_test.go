package model

import (
	"bytes"
	"reflect"
	"slices"
	"strings"
	"testing"

	"pavane/api"
	"pavane/core"
)

const mark = 0xdecade

// behind is a copy of l with room behind its end, in which marks stand.
func behind[T any](l []T, mark T) []T {
	out := append(slices.Clone(l), mark, mark, mark)
	return out[:len(l):len(out)]
}

// roomyDatum is a copy of d with marks in the room behind all its lists.
func roomyDatum(d api.Datum) api.Datum {
	d.I.L = behind(d.I.L, mark)
	for _, l := range []*[]api.Datum{&d.Items, &d.Tail} {
		var made []api.Datum
		for _, x := range *l {
			made = append(made, roomyDatum(x))
		}
		*l = behind(made, api.Datum{Kind: api.Sym, S: "mark"})
	}
	return d
}

// roomy is a copy of e with marks in the room behind all its lists.
func roomy(e api.Expr) api.Expr {
	e.D = roomyDatum(e.D)
	e.Vars = behind(e.Vars, mark)
	var kids []api.Expr
	for _, kid := range e.Kids {
		kids = append(kids, roomy(kid))
	}
	e.Kids = behind(kids, variableOf(mark))
	return e
}

// whole is a copy of e in which the room behind lists is theirs, so that it can be seen.
func whole(e api.Expr) api.Expr {
	e.D = wholeDatum(e.D)
	e.Vars = slices.Clone(e.Vars[:cap(e.Vars)])
	var kids []api.Expr
	for _, kid := range e.Kids[:cap(e.Kids)] {
		kids = append(kids, whole(kid))
	}
	e.Kids = kids
	return e
}

func wholeDatum(d api.Datum) api.Datum {
	d.I.L = slices.Clone(d.I.L[:cap(d.I.L)])
	for _, l := range []*[]api.Datum{&d.Items, &d.Tail} {
		var made []api.Datum
		for _, x := range (*l)[:cap(*l)] {
			made = append(made, wholeDatum(x))
		}
		*l = made
	}
	return d
}

// changing are expressions that change what they can.
const changing = `
	(let v1 '(1 (2 "x") . c) (begin (set-car! v1 5) (begin (set-cdr! v1 6) v1)))
	(let v1 '((1 2) (3 4)) (begin (set-car! (car v1) 5) (begin (set-cdr! (car (cdr v1)) '(7)) v1)))
	((lambda v1 (begin (set-car! v1 5) (begin (set-cdr! v1 '(9)) v1))) 1 2 3)
	((lambda (v1 v2 . v3) (begin (set! v1 v3) (begin (set! v3 v2) (cons v1 (cons v3 '()))))) 1 2 3)
	(let v1 (lambda v2 v2) (let v3 '(1 2 3) (let v4 (apply v1 v3) (begin (set-car! v4 0) (cons v3 v4)))))
	(let v1 12345678901234567890 (begin (set! v1 (+ v1 v1)) (begin (write v1) (- v1 1))))
	(let v1 (box '(1)) (begin (set-car! (unbox v1) 2) (unbox v1)))
	(cons (read-byte) (cons (read-byte) (cons (read-byte) (read-byte))))
	(let v1 (lambda (v2) (let v3 (read-byte) (if v3 (begin (write v3) (v2 v2)) (raise '(a b))))) (v1 v1))
	(let v1 "abc" (let v2 (string-append v1 v1) (begin (display v2) (cons v1 v2))))
	(let v1 '(1 2) (begin (set-cdr! (cdr v1) v1) (write v1)))
	(let v1 (call/cc (lambda (v2) v2)) (if (procedure? v1) (v1 '(1 2)) (begin (set-car! v1 9) v1)))
	((lambda (v1 v2) v1) 1)
	(let v1 (lambda (v2) (v2 v2)) (v1 v1))
`

// R3: what is handed in is as it was, and so is the room behind it; what is in that room is not looked at; what is told is the same each time.
func TestMemory(t *testing.T) {
	for _, source := range lines(changing) {
		e := parsed(t, source)
		if !core.Closed(e) {
			t.Fatalf("not Closed: %s", source)
		}
		want := Run(e, []byte("ab\x00"), 2000)
		given, input := roomy(e), behind([]byte("ab\x00"), 'm')
		before := whole(given)
		for range 2 {
			if got := Run(given, input, 2000); got != want {
				t.Errorf("%s with room behind its lists: %s, want %s", source, cut(told(got)), cut(told(want)))
			}
			steps, ok := Steps(e, []byte("ab\x00"), 2000)
			if got, is := Steps(given, input, 2000); got != steps || is != ok {
				t.Errorf("Steps of %s with room behind its lists: %d, %t, want %d, %t", source, got, is, steps, ok)
			}
			if !reflect.DeepEqual(whole(given), before) || !bytes.Equal(input[:cap(input)], []byte("ab\x00mmm")) {
				t.Fatalf("Run of %s changes what it is given", source)
			}
		}
	}
}

// What is changed behind a call changes no answer, and an answer is not kept for the next call.
func TestNothingIsKept(t *testing.T) {
	e, input := parsed(t, `(begin (display "abc") (cons (read-byte) '(1 "abc" sym)))`), []byte("ab")
	got := Run(e, input, enough)
	want := api.Outcome{Value: strings.Clone(got.Value), Out: strings.Clone(got.Out)}
	input[0] = 'c'
	for _, kid := range []*api.Expr{&e.Kids[0].Kids[0], &e.Kids[1].Kids[1]} {
		kid.D = api.Datum{Kind: api.Sym, S: "other"}
	}
	if got != want || told(got) != `(97 1 "abc" sym) | abc` {
		t.Errorf("an answer changes behind its call: %s", told(got))
	}
	if again := Run(e, input, enough); told(again) != "(99 . other) | other" {
		t.Errorf("what was changed: %s", told(again))
	}
	// Two parts that are one in memory are two in meaning.
	one := parsed(t, "'(1 2)")
	shared := []api.Expr{one, one}
	check(t, primitive(api.PEqQ, shared...), "", "#f")
	kids := []api.Expr{parsed(t, "(lambda () (set-car! '(1) 2))")}
	check(t, seq(call(kids...), call(kids...)), "", "#v")
}
