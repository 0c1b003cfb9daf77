package model

import (
	"strings"
	"testing"

	"pavane/api"
	"pavane/core"
)

// P10.2: as many values as Vars; with Rest at least one less.
func TestArity(t *testing.T) {
	checkAll(t, `
		((lambda () 1)) => 1
		((lambda () 1) 2) => error: arity
		((lambda (v1) v1)) => error: arity
		((lambda (v1) v1) 2) => 2
		((lambda (v1) v1) 2 3) => error: arity
		((lambda (v1 v2) v2) 2) => error: arity
		((lambda (v1 v2) v2) 2 3) => 3
		((lambda (v1 v2) v2) 2 3 4) => error: arity
		((lambda v1 v1)) => ()
		((lambda v1 v1) 2) => (2)
		((lambda v1 v1) 2 3 4 5) => (2 3 4 5)
		((lambda (v1 . v2) v2)) => error: arity
		((lambda (v1 . v2) (cons v1 v2)) 2) => (2)
		((lambda (v1 . v2) v2) 2 3) => (3)
		((lambda (v1 . v2) v2) 2 3 4) => (3 4)
		((lambda (v1 v2 . v3) v3) 2) => error: arity
		((lambda (v1 v2 . v3) (cons v3 v1)) 2 3) => (() . 2)
		((lambda (v1 v2 . v3) (cons v3 v2)) 2 3 4) => ((4) . 3)
		((lambda (v1) (write v1)) 2 (write 1)) => error: arity | 1
	`)
}

// P10.2: the list of what is left is new pairs.
func TestRestIsNew(t *testing.T) {
	checkAll(t, `
		(let v1 (lambda v2 v2) (eq? (v1 1) (v1 1))) => #f
		(let v1 (lambda v2 v2) (eq? (v1) (v1))) => #t
		(let v1 (lambda v2 v2) (let v3 '(1 2) (eq? (apply v1 v3) v3))) => #f
		(let v1 (lambda v2 v2) (let v3 '(1 2) (begin (set-car! (apply v1 v3) 5) v3))) => (1 2)
		(let v1 (lambda (v4 . v2) v2) (let v3 '(1 2) (eq? (apply v1 v3) (cdr v3)))) => #f
		(let v1 (lambda v2 v2) (let v3 (cons 7 8) (eq? (car (v1 v3)) v3))) => #t
	`)
}

// P10.2: what is neither a procedure nor a continuation cannot be called, with how many values soever.
func TestCallsOfOthers(t *testing.T) {
	for _, callee := range []string{"5", "'a", `"a"`, "#t", "#f", "'()", "'(1)", "(void)", "(cons 1 2)", "(box 1)", "(box (lambda () 1))", "(cons (lambda () 1) 2)"} {
		for _, rest := range []string{"", " 1", " 1 2"} {
			check(t, parsed(t, "("+callee+rest+")"), "", "error: type")
		}
		check(t, parsed(t, "(call/cc "+callee+")"), "", "error: type")
		check(t, parsed(t, "(apply "+callee+" '())"), "", "error: type")
	}
}

// P10.2: a procedure knows the variables that were around its lambda, not those that are around its call.
func TestClosures(t *testing.T) {
	checkAll(t, `
		(let v1 1 (let v2 (lambda (v3) (+ v1 v3)) (let v4 10 (v2 v4)))) => 11
		(let v1 (lambda (v2) (lambda (v3) (lambda (v4) (cons v2 (cons v3 v4))))) (((v1 1) 2) 3)) => (1 2 . 3)
		(let v1 (lambda (v2) (lambda () v2)) (let v3 (v1 1) (let v4 (v1 2) (cons (v3) (cons (v4) (v3)))))) => (1 2 . 1)
		(let v1 (lambda (v2) (if (< v2 2) v2 (+ (v2 0) 1))) (v1 1)) => 1
		(let v1 (lambda (v2 v3) (if (= v3 0) '() (cons v3 (v2 v2 (- v3 1))))) (v1 v1 3)) => (3 2 1)
		(let v1 (lambda (v2 v3) (if (= v3 0) 0 (begin (v2 v2 (- v3 1)) v3))) (v1 v1 3)) => 3
		(let v1 (lambda (v2 v3) (let v4 (* v3 2) (if (= v3 0) v4 (cons (v2 v2 (- v3 1)) v4)))) (v1 v1 2)) => ((0 . 2) . 4)
	`)
}

// P10.2: a continuation with one value goes on with that; with none or two it is ErrArity.
func TestContinuations(t *testing.T) {
	checkAll(t, `
		(call/cc (lambda (v1) 5)) => 5
		(call/cc (lambda (v1) (v1 5))) => 5
		(call/cc (lambda (v1) (begin (v1 5) (write 1)))) => 5
		(+ 1 (call/cc (lambda (v1) (+ 10 (v1 5))))) => 6
		(call/cc (lambda (v1) (v1))) => error: arity
		(call/cc (lambda (v1) (v1 5 6))) => error: arity
		(call/cc (lambda (v1) (v1 (write 1) (write 2)))) => error: arity | 12
		(call/cc (lambda (v1) (v1 (v1 5) 6))) => 5
		(call/cc (lambda v1 (begin (write v1) ((car v1) v1)))) => (#p) | (#p)
		(call/cc (lambda () 1)) => error: arity
		(call/cc (lambda (v1 v2) 1)) => error: arity
		(call/cc (lambda (v1 . v2) v2)) => ()
		(procedure? (call/cc (lambda (v1) v1))) => #t
		((call/cc (lambda (v1) v1)) (lambda (v2) 5)) => 5
		(let v1 (lambda (v2) (call/cc v2)) ((v1 v1) (lambda (v3) 5))) => 5
		(call/cc (call/cc (lambda (v1) v1))) => #p
		(apply (call/cc (lambda (v1) v1)) '(5)) => error: type
		(call/cc (lambda (v1) (apply v1 '(5)))) => 5
		(call/cc (lambda (v1) (apply v1 '()))) => error: arity
		(call/cc (lambda (v1) (apply v1 '(5 6)))) => error: arity
		(call/cc (lambda (v1) (call/cc v1))) => #p
	`)
}

// P10.2: a continuation is called again and again, behind its call/cc's end: what was reckoned ahead of it is as it was, what was set or changed is not.
func TestContinuationsAgain(t *testing.T) {
	checkAll(t, `
		(let v1 0 (let v2 0 (begin (write (+ 10 (call/cc (lambda (v3) (begin (set! v1 v3) 1))))) (begin (set! v2 (+ v2 1)) (if (< v2 4) (v1 v2) 'end))))) => end | 11111213
		(let v1 0 (let v2 0 (let v4 (cons (begin (set! v2 (+ v2 1)) v2) (call/cc (lambda (v3) (begin (set! v1 v3) 'a)))) (begin (write v4) (if (eq? (cdr v4) 'a) (v1 'b) v2))))) => 1 | (1 . a)(1 . b)
		(let v1 0 (let v4 ((lambda v5 v5) (write 1) (call/cc (lambda (v3) (begin (set! v1 v3) 0))) (begin (write 2) 9)) (begin (write v4) (if (< (car (cdr v4)) 3) (v1 (+ 1 (car (cdr v4)))) 'end)))) => end | 12(#v 0 9)2(#v 1 9)2(#v 2 9)2(#v 3 9)
		(let v1 0 (let v2 (call/cc (lambda (v3) (begin (set! v1 v3) 1))) (begin (set! v2 (+ v2 10)) (begin (write v2) (if (< v2 12) (v1 (- v2 9)) v2))))) => 12 | 1112
		(let v1 '() (let v2 (call/cc (lambda (v3) v3)) (begin (set! v1 (cons 0 v1)) (if (procedure? v2) (v2 1) v1)))) => (0 0)
		(let v1 (box 0) (let v2 (call/cc (lambda (v3) v3)) (begin (set-box! v1 (+ 1 (unbox v1))) (if (< (unbox v1) 5) (v2 v2) (unbox v1))))) => 5
		(let v1 (cons 0 0) (let v2 (call/cc (lambda (v3) v3)) (begin (set-car! v1 (+ 1 (car v1))) (if (< (car v1) 5) (v2 v2) v1)))) => (5 . 0)
		(let v1 0 (begin (set! v1 (call/cc (lambda (v2) v2))) (if (procedure? v1) (v1 7) v1))) => 7
		(let v1 0 (begin (if (call/cc (lambda (v2) (begin (set! v1 v2) #t))) (write 1) (write 2)) (if v1 (let v3 v1 (begin (set! v1 #f) (v3 #f))) 'end))) => end | 12
		(let v1 0 (let v2 0 (begin (call/cc (lambda (v3) (set! v1 v3))) (begin (set! v2 (+ v2 1)) (if (= v2 3) (write v2) (v1 0)))))) => #v | 3
	`)
}

// P10.2: a continuation is called within another one's call, and within what is reckoned for another.
func TestContinuationsWithinOthers(t *testing.T) {
	checkAll(t, `
		(+ 1 (call/cc (lambda (v1) (+ 10 (call/cc (lambda (v2) (v1 5))))))) => 6
		(+ 1 (call/cc (lambda (v1) (+ 10 (call/cc (lambda (v2) (v2 5))))))) => 16
		(+ 1 (call/cc (lambda (v1) (+ 10 (call/cc (lambda (v2) (v1 (v2 5)))))))) => 16
		(+ 1 (call/cc (lambda (v1) (+ 10 (call/cc (lambda (v2) (v2 (v1 5)))))))) => 6
		(let v1 (lambda (v2 v3) (+ 100 (v2 v3))) (+ 1 (call/cc (lambda (v4) (v1 v4 5))))) => 6
		(let v1 0 (let v2 0 (begin (write (call/cc (lambda (v3) (begin (set! v1 v3) 'a)))) (begin (write (call/cc (lambda (v6) (begin (set! v2 v6) 'b)))) (if v1 (let v4 v1 (begin (set! v1 #f) (v4 'c))) (if v2 (let v5 v2 (begin (set! v2 #f) (v5 'd))) 'e)))))) => e | abcbd
		(let v1 (lambda (v2) (call/cc (lambda (v3) (v2 v3)))) (+ 1 (v1 (lambda (v4) (* 2 (v4 5)))))) => 6
		(call/cc (lambda (v1) ((call/cc (lambda (v2) (v1 v2))) 5))) => #p
		(let v9 (call/cc (lambda (v1) ((call/cc (lambda (v2) (v1 v2))) 5))) (if (procedure? v9) (v9 (lambda (v3) (+ v3 1))) v9)) => 6
	`)
}

// reached counts what the machine holds on to, but for its expression.
type reached struct {
	frames    map[*frame]bool
	variables map[*variable]bool
	rows      map[*row]bool
	values    map[value]bool
}

func (r *reached) frame(f *frame) {
	for ; f != nil && !r.frames[f]; f = f.behind {
		r.frames[f] = true
		r.variable(f.in)
		for l := f.done; l != nil && !r.rows[l]; l = l.ahead {
			r.rows[l] = true
			r.value(l.is)
		}
	}
}

func (r *reached) variable(v *variable) {
	for ; v != nil && !r.variables[v]; v = v.around {
		r.variables[v] = true
		r.value(v.is)
	}
}

func (r *reached) value(v value) {
	if v == nil || r.values[v] {
		return
	}
	r.values[v] = true
	switch v := v.(type) {
	case *pair:
		r.value(v.first)
		r.value(v.rest)
	case *box:
		r.value(v.is)
	case *procedure:
		r.variable(v.in)
	case *continuation:
		r.frame(v.behind)
	}
}

// room is the most that the machine holds on to in so many steps of e.
func room(e api.Expr, steps int) (int, api.Errno) {
	m := machine{fuel: steps, now: state{e: &e}}
	most := 0
	for turn := 0; m.now.e != nil || m.now.behind != nil; turn++ {
		err := api.OK
		if m.now.e != nil {
			err = m.begin()
		} else {
			err = m.goOn(m.now.behind)
		}
		if err != api.OK {
			return most, err
		}
		if turn%101 == 0 {
			r := reached{map[*frame]bool{}, map[*variable]bool{}, map[*row]bool{}, map[value]bool{}}
			r.frame(m.now.behind)
			r.variable(m.now.in)
			r.value(m.now.is)
			most = max(most, len(r.frames)+len(r.variables)+len(r.rows)+len(r.values))
		}
	}
	return most, api.OK
}

// loops go on and on by tail calls.
const loops = `
	(let v1 (lambda (v2) (v2 v2)) (v1 v1))
	((lambda (v1) (v1 v1)) (lambda (v2) (v2 v2)))
	(let v1 (lambda (v2) (if #t (v2 v2) 0)) (v1 v1))
	(let v1 (lambda (v2) (if #f 0 (v2 v2))) (v1 v1))
	(let v1 (lambda (v2) (let v3 5 (v2 v2))) (v1 v1))
	(let v1 (lambda (v2) (let v3 (cons v2 v2) ((car v3) (cdr v3)))) (v1 v1))
	(let v1 (lambda (v2) (begin 1 (v2 v2))) (v1 v1))
	(let v1 (lambda (v2) (begin (cons 1 2) (begin (not 1) (let v3 1 (if v3 (v2 v2) 0))))) (v1 v1))
	(let v1 (lambda (v2) (apply v2 (cons v2 '()))) (v1 v1))
	(let v1 (lambda (v2) (call/cc (lambda (v3) (v2 v2)))) (v1 v1))
	(let v1 (lambda (v2 v3) (call/cc (lambda (v4) (v2 v2 v4)))) (v1 v1 0))
	(let v1 (lambda (v2 v3) (call/cc (lambda (v4) (apply v2 (cons v2 (cons v4 '())))))) (v1 v1 0))
	(let v1 (lambda v2 (apply (car v2) v2)) (v1 v1 2 3))
	(let v1 (lambda (v2 v3) (v2 v2 (+ v3 1))) (v1 v1 0))
	(let v1 (lambda (v2 v3 v4) (if (= v3 v4) (v2 v2 0 (+ v4 1)) (v2 v2 (+ v3 1) v4))) (v1 v1 0 0))
	(let v1 (call/cc (lambda (v2) v2)) (v1 v1))
	(let v1 0 (let v3 (call/cc (lambda (v2) v2)) (begin (set! v1 (cons v3 0)) ((car v1) v3))))
	(let v1 (lambda (v2 v3) (v3 v3 v2)) (v1 v1 v1))
	(let v1 (box 0) (begin (set-box! v1 (lambda () ((unbox v1)))) ((unbox v1))))
	(let v1 0 (begin (set! v1 (lambda (v2) (v1 (+ v2 1)))) (v1 0)))
	(let v1 (lambda (v2) (begin (call/cc (lambda (v3) (v3 5))) (v2 v2))) (v1 v1))
	(let v1 (lambda (v2) (begin (+ 1 (call/cc (lambda (v3) (* 2 (v3 5))))) (v2 v2))) (v1 v1))
`

// P10.2: a tail call takes no room: a loop goes on as long as fuel allows, and holds on to no more than it did at its begin.
func TestLoopsTakeNoRoom(t *testing.T) {
	for _, source := range lines(loops) {
		e := parsed(t, source)
		if !core.Closed(e) {
			t.Fatalf("not Closed: %s", source)
		}
		early, _ := room(e, 1000)
		late, err := room(e, 100000)
		if err != api.ErrFuel || early == 0 || late > early+2 {
			t.Errorf("%s: %d of room in 1000 steps, %d in 100000, %v", source, early, late, err)
		}
		if got := Run(e, nil, 300000); got != (api.Outcome{Err: api.ErrFuel}) {
			t.Errorf("%s: %s", source, told(got))
		}
	}
}

// Other calls do take room: so it is seen that room tells it.
func TestRoomIsSeen(t *testing.T) {
	for _, source := range lines(`
		(let v1 (lambda (v2) (+ 1 (v2 v2))) (v1 v1))
		(let v1 (lambda (v2) (begin (v2 v2) 1)) (v1 v1))
		(let v1 (lambda (v2) (let v3 (v2 v2) v3)) (v1 v1))
		(let v1 (lambda (v2) (if (v2 v2) 1 2)) (v1 v1))
		(let v1 (lambda (v2 v3) (v2 v2 (cons v3 v3))) (v1 v1 0))
		(let v1 (lambda (v2 v3) (v2 v2 (lambda () v3))) (v1 v1 0))
	`) {
		early, _ := room(parsed(t, source), 1000)
		late, err := room(parsed(t, source), 20000)
		if err != api.ErrFuel || late < 10*early {
			t.Errorf("%s: %d of room in 1000 steps, %d in 20000, %v", source, early, late, err)
		}
	}
}

// A recursion may be as deep as its steps let it.
func TestDeepRecursion(t *testing.T) {
	check(t, parsed(t, "(let v1 (lambda (v2 v3) (if (= v3 0) 0 (+ 1 (v2 v2 (- v3 1))))) (v1 v1 60000))"), "", "60000")
	got := Run(parsed(t, "(let v1 (lambda (v2) (begin (v2 v2) (write 1))) (v1 v1))"), nil, 3000000)
	if got != (api.Outcome{Err: api.ErrFuel}) {
		t.Errorf("without an end: %s", told(got))
	}
}

// A loop of known length takes so many steps, and no more.
func TestLoopSteps(t *testing.T) {
	loop := "(let v1 (lambda (v2 v3) (if (= v3 0) 'end (v2 v2 (- v3 1)))) (v1 v1 N))"
	first, _ := Steps(parsed(t, strings.Replace(loop, "N", "0", 1)), nil, enough)
	// The if, the = with two, the call with two, the - with two, and the procedure.
	const round = 1 + 3 + 3 + 3 + 1
	for _, n := range []string{"1", "2", "10", "1000", "90000"} {
		rounds := 0
		for _, digit := range n {
			rounds = 10*rounds + int(digit-'0')
		}
		checkSteps(t, parsed(t, strings.Replace(loop, "N", n, 1)), first+rounds*round)
	}
}
