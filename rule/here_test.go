package rule

import (
	"math"
	"slices"
	"strings"
	"testing"

	"pavane/api"
	"pavane/core"
	"pavane/prim"
)

func TestFold(t *testing.T) {
	checkHere(t, `
		fold: (+ 1 2) => 3
		fold: (- 1 2) => -1
		fold: (* 100000000000 100000000000) => 10000000000000000000000
		fold: (quotient -7 2) => -3
		fold: (remainder -7 2) => -1
		fold: (modulo -7 2) => 1
		fold: (= 2 2) => #t
		fold: (< 2 2) => #f
		fold: (null? '()) => #t
		fold: (null? 5) => #f
		fold: (pair? '()) => #f
		fold: (pair? nothing) => #f
		fold: (integer? 'a) => #f
		fold: (symbol? 'a) => #t
		fold: (string? "a") => #t
		fold: (boolean? #f) => #t
		fold: (eq? 'a 'a) => #t
		fold: (eq? "a" "a") => #f
		fold: (eq? nothing nothing) => #t
		fold: (not #f) => #t
		fold: (not nothing) => #f
		fold: (string-length "abc") => 3
		fold: (string-append "ab" "c") => "abc"
		fold: (string=? "a" "b") => #f
		fold: (symbol->string 'abc) => "abc"
		fold: (number->string -12) => "-12"

		fold: (+ 1 v1) => no
		fold: (+ v1 1) => no
		fold: (+ 1 (+ 2 3)) => no
		fold: (not (lambda () 1)) => no
		fold: (pair? '(1)) => no
		fold: (null? '(1 2)) => no
		fold: (eq? 1 '(1)) => no
		fold: (eq? '(1) 1) => no
		fold: (not '(1 . 2)) => no
		fold: (quotient 1 0) => no
		fold: (modulo 1 0) => no
		fold: (+ 1 "a") => no
		fold: (+ 'a 1) => no
		fold: (string-length 5) => no
		fold: (symbol->string "a") => no
		fold: (cons 1 2) => no
		fold: (car 1) => no
		fold: (procedure? 1) => no
		fold: (box 1) => no
		fold: (void) => no
		fold: (newline) => no
		fold: (raise 1) => no
		fold: (write 1) => no
		fold: (if 1 2 3) => no
		fold: (1 2) => no
		fold: 3 => no
		fold: v1 => no
		fold: (begin 1 2) => no
		fold: (let v1 1 2) => no
		fold: (lambda () 1) => no
	`)
	// Each primitive of constants: just the Plain ones become what Do tells, where it tells no error.
	atoms := []api.Expr{numeral(7), constant(api.Datum{Kind: api.Num}), parsed(t, `"ab"`), parsed(t, "'ab"), parsed(t, "#f"), parsed(t, "'()"), parsed(t, "nothing")}
	for p := 1; p <= 38; p++ {
		for _, a := range atoms {
			for _, b := range atoms {
				kids := []api.Expr{a, b}[:arity(p)]
				var l []api.Datum
				for _, kid := range kids {
					l = append(l, kid.D)
				}
				x := primitive(p, kids...)
				want, err := prim.Do(p, l)
				if isPlain(p) && err == api.OK {
					checkYes(t, x, Step{Rule: Fold}, constant(want))
				} else {
					checkNo(t, x, Step{Rule: Fold})
				}
			}
		}
	}
	// What is as long as may be, and one more.
	long := func(n int) string { return `"` + strings.Repeat("a", n) + `"` }
	checkHere(t, "fold: (string-append "+long(1000)+" "+long(24)+") => "+long(1024)+"\nfold: (string-append "+long(1000)+" "+long(25)+") => no")
	limbs := func(n int) api.Expr {
		l := make([]uint32, n)
		for i := range l {
			l[i] = math.MaxUint32
		}
		return constant(api.Datum{Kind: api.Num, I: api.Int{L: l}})
	}
	checkNo(t, primitive(api.PAdd, limbs(64), numeral(1)), Step{Rule: Fold})
	checkYes(t, primitive(api.PSub, limbs(64), constant(api.Datum{Kind: api.Num})), Step{Rule: Fold}, limbs(64))
}

func TestBranch(t *testing.T) {
	checkHere(t, `
		branch: (if #t 1 2) => 1
		branch: (if #f 1 2) => 2
		branch: (if 0 1 2) => 1
		branch: (if '() 1 2) => 1
		branch: (if nothing 1 2) => 1
		branch: (if "" 1 2) => 1
		branch: (if 'a 1 2) => 1
		branch: (if '(1) 1 2) => 1
		branch: (if '(#f) 1 2) => 1
		branch: (if #f 1 (if #t 3 4)) => (if #t 3 4)
		branch: (if 5 (lambda (v1 . v2) (cons v1 v2)) 2) => (lambda (v1 . v2) (cons v1 v2))

		branch: (if v1 1 2) => no
		branch: (if (not #f) 1 2) => no
		branch: (if (lambda () 1) 1 2) => no
		branch: (if (begin 1 #f) 1 2) => no
		branch: (#t 1 2) => no
		branch: (begin #t 1) => no
		branch: (let v1 #t 1) => no
		branch: #t => no
	`)
	// A truth is false by what it says alone.
	is := []api.Datum{{Kind: api.Num}, {Kind: api.Str}, {Kind: api.List}, {}}
	for _, d := range is {
		checkYes(t, choice(constant(d), numeral(1), numeral(2)), Step{Rule: Branch}, numeral(1))
	}
}

func TestNot(t *testing.T) {
	checkHere(t, `
		not: (if (not v1) 1 2) => (if v1 2 1)
		not: (if (not #f) 1 2) => (if #f 2 1)
		not: (if (not (not v1)) (v2) (lambda (v3) v3)) => (if (not v1) (lambda (v3) v3) (v2))
		not: (if (not (car '(1 2))) '(3 4) v2) => (if (car '(1 2)) v2 '(3 4))

		not: (if v1 1 2) => no
		not: (if #f 1 2) => no
		not: (if (null? v1) 1 2) => no
		not: (if (pair? v1) (not v1) (not v1)) => no
		not: (if (v1) 1 2) => no
		not: (not v1) => no
		not: (not (if 1 2 3)) => no
		not: (begin (not v1) 1) => no
	`)
}

func TestDrop(t *testing.T) {
	checkHere(t, `
		drop: (begin 1 2) => 2
		drop: (begin v1 (v2 v1)) => (v2 v1)
		drop: (begin (lambda () (raise 1)) '(1 2)) => '(1 2)
		drop: (begin (cons 1 (box 2)) (begin 3 4)) => (begin 3 4)
		drop: (begin (begin 1 2) 3) => 3

		drop: (begin (v1) 2) => no
		drop: (begin (car v1) 2) => no
		drop: (begin (begin 1 (write 2)) 3) => no
		drop: (begin (if 1 2 (newline)) 3) => no
		drop: (begin (set! v1 1) 3) => no
		drop: (let v1 1 2) => no
		drop: (if 1 2 3) => no
		drop: (1 2) => no
	`)
}

func TestUnused(t *testing.T) {
	checkHere(t, `
		unused: (let v1 1 2) => 2
		unused: (let v1 v2 v2) => v2
		unused: (let v1 v1 2) => 2
		unused: (let v1 (lambda (v3) (v3 v3)) (v2 '(1 v1))) => (v2 '(1 v1))
		unused: (let v1 (cons 1 (if v2 3 4)) (lambda (v5) v5)) => (lambda (v5) v5)

		unused: (let v1 1 v1) => no
		unused: (let v1 1 (begin 2 (lambda (v2) (if v2 3 v1)))) => no
		unused: (let v1 1 (set! v1 2)) => no
		unused: (let v1 (v2) 3) => no
		unused: (let v1 (write 2) 3) => no
		unused: (let v1 (+ 2 3) 3) => no
		unused: (let v1 (begin 1 (newline)) 3) => no
		unused: (begin 1 2) => no
		unused: (if 1 2 3) => no
		unused: ((lambda (v1) 2) 1) => no
	`)
}

func TestCopy(t *testing.T) {
	checkHere(t, `
		copy: (let v1 5 v1) => 5
		copy: (let v1 5 2) => 2
		copy: (let v1 v2 (+ v1 (* v1 v2))) => (+ v2 (* v2 v2))
		copy: (let v1 "a" (begin (write v1) (lambda (v3) (if v3 v1 '(v1))))) => (begin (write "a") (lambda (v3) (if v3 "a" '(v1))))
		copy: (let v1 '() (cons v1 v1)) => (cons '() '())
		copy: (let v1 nothing v1) => nothing
		copy: (let v1 12345678901234567890 (v1 v1)) => (12345678901234567890 12345678901234567890)
		copy: (let v1 v2 (let v3 v1 (v3 v1))) => (let v3 v2 (v3 v2))
		copy: (let v1 v2 (lambda (v2) v1)) => (lambda (v2) v2)
		copy: (let v1 v2 (let v2 3 (v1 v2))) => (let v2 3 (v2 v2))
		copy: (let v1 v1 (v1 2)) => (v1 2)
		copy: (let v1 v2 (set! v1 v1)) => (set! v1 v2)

		copy: (let v1 '(1) v1) => no
		copy: (let v1 '(1 . 2) (car v1)) => no
		copy: (let v1 (lambda (v2) v2) v1) => no
		copy: (let v1 (void) v1) => no
		copy: (let v1 (+ 1 2) v1) => no
		copy: (let v1 (if 1 2 3) v1) => no
		copy: (let v1 (begin 1 2) v1) => no
		copy: (let v1 (let v2 2 v2) v1) => no
		copy: (begin 1 2) => no
		copy: ((lambda (v1) v1) 5) => no
		copy: v1 => no
	`)
}

func TestBeta(t *testing.T) {
	checkHere(t, `
		beta: ((lambda (v1) v1) 5) => (let v1 5 v1)
		beta: ((lambda () 5)) => 5
		beta: ((lambda () (lambda (v1) v1))) => (lambda (v1) v1)
		beta: ((lambda (v1 v2) (cons v1 v2)) 5 6) => (let v1 5 (let v2 6 (cons v1 v2)))
		beta: ((lambda (v3 v1 v2) (v1 v2)) (write 1) (write 2) (write 3)) => (let v3 (write 1) (let v1 (write 2) (let v2 (write 3) (v1 v2))))
		beta: ((lambda (v1) (lambda (v2) v1)) (lambda (v3 . v4) v4)) => (let v1 (lambda (v3 . v4) v4) (lambda (v2) v1))

		beta: ((lambda (v1) v1)) => no
		beta: ((lambda (v1) v1) 1 2) => no
		beta: ((lambda () 1) 2) => no
		beta: ((lambda (v1 v2) v1) 1) => no
		beta: ((lambda (v1 v2) v1) 1 2 3) => no
		beta: ((lambda v1 v1)) => no
		beta: ((lambda v1 v1) 1) => no
		beta: ((lambda (v1 . v2) v1) 1 2) => no
		beta: (v1 2) => no
		beta: (((lambda () (lambda (v1) v1))) 5) => no
		beta: ((if 1 (lambda () 1) 2)) => no
		beta: (lambda (v1) v1) => no
		beta: (call/cc (lambda (v1) v1)) => no
		beta: (let v1 5 v1) => no
	`)
}

func TestInline(t *testing.T) {
	checkHere(t, `
		inline 1: (let v1 (lambda (v2) v2) (v1 5)) => (let v1 (lambda (v2) v2) ((lambda (v50) v50) 5))
		inline 1: (let v1 (lambda () 3) (v1)) => (let v1 (lambda () 3) ((lambda () 3)))
		inline 1: (let v1 (lambda v2 v2) (v1 1 2)) => (let v1 (lambda v2 v2) ((lambda v50 v50) 1 2))
		inline 1: (let v1 (lambda (v2 . v3) (let v4 v3 (lambda (v5) (v2 v4 v5 v6)))) (v1)) => (let v1 (lambda (v2 . v3) (let v4 v3 (lambda (v5) (v2 v4 v5 v6)))) ((lambda (v50 . v51) (let v52 v51 (lambda (v53) (v50 v52 v53 v6))))))
		inline 1: (let v1 (lambda (v2) v2) (v1 (v1 5))) => (let v1 (lambda (v2) v2) ((lambda (v50) v50) (v1 5)))
		inline 2: (let v1 (lambda (v2) v2) (v1 (v1 5))) => (let v1 (lambda (v2) v2) (v1 ((lambda (v50) v50) 5)))
		inline 1: (let v1 (lambda (v2) v2) (cons (v1 (v1 1)) (if (v1 2) v1 (lambda (v3) (v1 v3))))) => (let v1 (lambda (v2) v2) (cons ((lambda (v50) v50) (v1 1)) (if (v1 2) v1 (lambda (v3) (v1 v3)))))
		inline 2: (let v1 (lambda (v2) v2) (cons (v1 (v1 1)) (if (v1 2) v1 (lambda (v3) (v1 v3))))) => (let v1 (lambda (v2) v2) (cons (v1 ((lambda (v50) v50) 1)) (if (v1 2) v1 (lambda (v3) (v1 v3)))))
		inline 3: (let v1 (lambda (v2) v2) (cons (v1 (v1 1)) (if (v1 2) v1 (lambda (v3) (v1 v3))))) => (let v1 (lambda (v2) v2) (cons (v1 (v1 1)) (if ((lambda (v50) v50) 2) v1 (lambda (v3) (v1 v3)))))
		inline 4: (let v1 (lambda (v2) v2) (cons (v1 (v1 1)) (if (v1 2) v1 (lambda (v3) (v1 v3))))) => (let v1 (lambda (v2) v2) (cons (v1 (v1 1)) (if (v1 2) v1 (lambda (v3) ((lambda (v50) v50) v3)))))
		inline 1: (let v1 (lambda (v2) v2) ((v1 v1) v1)) => (let v1 (lambda (v2) v2) (((lambda (v50) v50) v1) v1))
		inline 1: (let v1 (lambda (v2) v1) (v1 v1)) => (let v1 (lambda (v2) v1) ((lambda (v50) v1) v1))
		inline 1: (let v1 (lambda () (v1)) (let v3 (v1) 2)) => (let v1 (lambda () (v1)) (let v3 ((lambda () (v1))) 2))

		inline 0: (let v1 (lambda (v2) v2) (v1 (v1 5))) => no
		inline -1: (let v1 (lambda (v2) v2) (v1 (v1 5))) => no
		inline -9223372036854775808: (let v1 (lambda (v2) v2) (v1 (v1 5))) => no
		inline 9223372036854775807: (let v1 (lambda (v2) v2) (v1 (v1 5))) => no
		inline 3: (let v1 (lambda (v2) v2) (v1 (v1 5))) => no
		inline 5: (let v1 (lambda (v2) v2) (cons (v1 (v1 1)) (if (v1 2) v1 (lambda (v3) (v1 v3))))) => no
		inline 1: (let v1 (lambda (v2) v2) v1) => no
		inline 1: (let v1 (lambda (v2) v2) (v3 v1)) => no
		inline 1: (let v1 (lambda (v2) v2) (call/cc v1)) => no
		inline 1: (let v1 (lambda (v2) v2) (apply v1 '(1))) => no
		inline 1: (let v1 (lambda () (v1)) 2) => no
		inline 1: (let v1 v2 (v1 5)) => no
		inline 1: (let v1 (begin 1 (lambda (v2) v2)) (v1 5)) => no
		inline 1: (lambda (v1) (v1 5)) => no
		inline 1: (begin (lambda (v1) v1) (v1 5)) => no
		inline 1: ((lambda (v2) v2) (v1 5)) => no
	`)
	// Where next is no variable's number, Fresh leaves the lambda as it is.
	x := parsed(t, "(let v1 (lambda (v2) v2) (v1 5))")
	for next, want := range map[int]int{0: 2, -1: 2, math.MinInt: 2, math.MaxInt: 2, greatest + 1: 2, greatest: greatest, 1: 1, 7: 7} {
		got, ok := Here(x, Step{Rule: Inline, N: 1}, next)
		if wanted := bind(1, lambda(false, []int{2}, variableOf(2)), call(lambda(false, []int{want}, variableOf(want)), numeral(5))); !ok || !exactly(got, wanted) {
			t.Errorf("Inline with next %d: %s, %t", next, text(got), ok)
		}
	}
}

func TestAgain(t *testing.T) {
	checkHere(t, `
		again 1: (let v1 (+ v2 1) (+ v2 1)) => (let v1 (+ v2 1) v1)
		again 1: (let v1 (void) (cons (void) (void))) => (let v1 (void) (cons v1 (void)))
		again 2: (let v1 (void) (cons (void) (void))) => (let v1 (void) (cons (void) v1))
		again 1: (let v1 (procedure? v2) (begin (procedure? v3) (procedure? v2))) => (let v1 (procedure? v2) (begin (procedure? v3) v1))
		again 1: (let v1 (eq? v2 v3) (cons (eq? v3 v2) (lambda (v4) (eq? v2 v3)))) => (let v1 (eq? v2 v3) (cons (eq? v3 v2) (lambda (v4) v1)))
		again 1: (let v1 (* v2 v2) (+ (* v2 v2) (- (* v2 v2) (* v2 3)))) => (let v1 (* v2 v2) (+ v1 (- (* v2 v2) (* v2 3))))
		again 2: (let v1 (* v2 v2) (+ (* v2 v2) (- (* v2 v2) (* v2 3)))) => (let v1 (* v2 v2) (+ (* v2 v2) (- v1 (* v2 3))))
		again 1: (let v1 (string-length "abc") (if 1 2 (string-length "abc"))) => (let v1 (string-length "abc") (if 1 2 v1))
		again 2: (let v1 (not '()) (begin (not '()) (not '()))) => (let v1 (not '()) (begin (not '()) v1))
		again 1: (let v1 (quotient v2 0) (not (not (quotient v2 0)))) => (let v1 (quotient v2 0) (not (not v1)))
		again 1: (let v1 (not v1) (not v1)) => (let v1 (not v1) v1)
		again 1: (let v1 (not v2) (lambda (v2) (not v2))) => (let v1 (not v2) (lambda (v2) v1))

		again 0: (let v1 (+ v2 1) (+ v2 1)) => no
		again -1: (let v1 (+ v2 1) (+ v2 1)) => no
		again 2: (let v1 (+ v2 1) (+ v2 1)) => no
		again 3: (let v1 (void) (cons (void) (void))) => no
		again 1: (let v1 (+ v2 1) (+ 1 v2)) => no
		again 1: (let v1 (+ v2 1) (- v2 1)) => no
		again 1: (let v1 (+ v2 1) (+ v2 2)) => no
		again 1: (let v1 (+ v2 1) (+ v3 1)) => no
		again 1: (let v1 (+ v2 1) v1) => no
		again 1: (let v1 (+ v2 1) '(+ v2 1)) => no
		again 1: (let v1 (eq? 1 #t) (eq? 1 #f)) => no
		again 1: (let v1 (string-append v2 "a") (string-append v2 "a")) => no
		again 1: (let v1 (symbol->string v2) (symbol->string v2)) => no
		again 1: (let v1 (number->string v2) (number->string v2)) => no
		again 1: (let v1 (cons 1 2) (cons 1 2)) => no
		again 1: (let v1 (car v2) (car v2)) => no
		again 1: (let v1 (box 1) (box 1)) => no
		again 1: (let v1 (unbox v2) (unbox v2)) => no
		again 1: (let v1 (read-byte) (read-byte)) => no
		again 1: (let v1 (newline) (newline)) => no
		again 1: (let v1 (not '(1)) (not '(1))) => no
		again 1: (let v1 (not (not v2)) (not (not v2))) => no
		again 1: (let v1 (+ (+ v2 1) 1) (+ (+ v2 1) 1)) => no
		again 1: (let v1 (not (lambda () 1)) (not (lambda () 1))) => no
		again 1: (let v1 v2 v2) => no
		again 1: (let v1 (v2) (v2)) => no
		again 1: (begin (void) (void)) => no
		again 1: (if (void) (void) 1) => no
	`)
	for p := 1; p <= 38; p++ {
		x := primitive(p, []api.Expr{variableOf(2), numeral(3)}[:arity(p)]...)
		all := bind(1, x, call(numeral(1), x, x))
		s := Step{Rule: Again, N: 2}
		if isPure(p) {
			checkYes(t, all, s, bind(1, x, call(numeral(1), x, variableOf(1))))
		} else {
			checkNo(t, all, s)
		}
		for i := range x.Kids {
			kids := slices.Clone(x.Kids)
			kids[i] = parsed(t, "'(1)")
			other := primitive(p, kids...)
			checkNo(t, bind(1, other, call(numeral(1), other, other)), s)
		}
	}
}

func TestFloat(t *testing.T) {
	checkHere(t, `
		float: (let v1 (let v2 3 v2) v1) => (let v2 3 (let v1 v2 v1))
		float: (let v1 (let v2 (write 1) (write 2)) (write 3)) => (let v2 (write 1) (let v1 (write 2) (write 3)))
		float: (let v1 (let v2 (let v3 1 2) (let v4 v2 v4)) (let v5 v1 v5)) => (let v2 (let v3 1 2) (let v1 (let v4 v2 v4) (let v5 v1 v5)))
		float: (let v1 (let v2 3 4) (v2 v1)) => (let v2 3 (let v1 4 (v2 v1)))

		float: (let v1 2 (let v2 3 v2)) => no
		float: (let v1 (begin (let v2 3 v2) 4) v1) => no
		float: (let v1 (lambda (v2) v2) v1) => no
		float: (begin (let v2 3 v2) 4) => no
		float: ((let v1 2 v1) (let v3 4 v3)) => no
		float: (not (let v1 2 v1)) => no
	`)
}

func TestAhead(t *testing.T) {
	checkHere(t, `
		ahead: (let v1 (begin 2 3) v1) => (begin 2 (let v1 3 v1))
		ahead: (let v1 (begin (write 1) (write 2)) (write 3)) => (begin (write 1) (let v1 (write 2) (write 3)))
		ahead: (let v1 (begin (begin 1 2) (begin 3 4)) (begin v1 5)) => (begin (begin 1 2) (let v1 (begin 3 4) (begin v1 5)))

		ahead: (let v1 2 (begin v1 3)) => no
		ahead: (let v1 (let v2 1 (begin 2 3)) v1) => no
		ahead: (let v1 (if 1 2 3) v1) => no
		ahead: (begin (begin 1 2) 3) => no
		ahead: ((begin 1 2) 3) => no
	`)
}

func TestKnown(t *testing.T) {
	checkHere(t, `
		known 1: (if v1 (if v1 2 3) 4) => (if v1 2 4)
		known 1 no: (if v1 2 (if v1 3 4)) => (if v1 2 4)
		known 1: (if v1 (if v1 (if v1 2 3) 4) 5) => (if v1 (if v1 2 3) 5)
		known 2: (if v1 (if v1 (if v1 2 3) 4) 5) => (if v1 (if v1 2 4) 5)
		known 1: (if v1 (cons (if v2 (if v1 2 3) 4) (lambda (v3) (if v1 5 (if v1 6 7)))) 8) => (if v1 (cons (if v2 2 4) (lambda (v3) (if v1 5 (if v1 6 7)))) 8)
		known 2: (if v1 (cons (if v2 (if v1 2 3) 4) (lambda (v3) (if v1 5 (if v1 6 7)))) 8) => (if v1 (cons (if v2 (if v1 2 3) 4) (lambda (v3) 5)) 8)
		known 3: (if v1 (cons (if v2 (if v1 2 3) 4) (lambda (v3) (if v1 5 (if v1 6 7)))) 8) => (if v1 (cons (if v2 (if v1 2 3) 4) (lambda (v3) (if v1 5 6))) 8)
		known 1 no: (if v1 8 (cons (if v2 (if v1 2 3) 4) (lambda (v3) (if v1 5 (if v1 6 7))))) => (if v1 8 (cons (if v2 3 4) (lambda (v3) (if v1 5 (if v1 6 7)))))
		known 2 no: (if v1 8 (cons (if v2 (if v1 2 3) 4) (lambda (v3) (if v1 5 (if v1 6 7))))) => (if v1 8 (cons (if v2 (if v1 2 3) 4) (lambda (v3) (if v1 6 7))))
		known 3 no: (if v1 8 (cons (if v2 (if v1 2 3) 4) (lambda (v3) (if v1 5 (if v1 6 7))))) => (if v1 8 (cons (if v2 (if v1 2 3) 4) (lambda (v3) (if v1 5 7))))
		known 1: (if v1 (if v1 v1 (lambda (v2) v2)) (if v1 (lambda (v3) v3) 4)) => (if v1 v1 (if v1 (lambda (v3) v3) 4))
		known 1 no: (if v1 (if v1 v1 (lambda (v2) v2)) (if v1 (lambda (v3) v3) 4)) => (if v1 (if v1 v1 (lambda (v2) v2)) 4)

		known 0: (if v1 (if v1 2 3) (if v1 4 5)) => no
		known -1: (if v1 (if v1 2 3) (if v1 4 5)) => no
		known 2: (if v1 (if v1 2 3) (if v1 4 5)) => no
		known 0 no: (if v1 (if v1 2 3) (if v1 4 5)) => no
		known -1 no: (if v1 (if v1 2 3) (if v1 4 5)) => no
		known 2 no: (if v1 (if v1 2 3) (if v1 4 5)) => no
		known 1: (if v1 2 (if v1 3 4)) => no
		known 1 no: (if v1 (if v1 2 3) 4) => no
		known 1: (if v1 (if v2 2 3) 4) => no
		known 1: (if v1 (if (not v1) 2 3) 4) => no
		known 1: (if v1 (v1 2 3) 4) => no
		known 1: (if (not v1) (if (not v1) 2 3) 4) => no
		known 1: (if #t (if #t 2 3) 4) => no
		known 1: (if (v1) (if (v1) 2 3) 4) => no
		known 1: (if (set! v1 2) (if v1 3 4) 5) => no
		known 1: (if (let v1 2 v1) (if v1 3 4) 5) => no
		known 1: (begin v1 (if v1 2 3)) => no
		known 1: (v1 (if v1 2 3)) => no
		known 1: (let v1 v1 (if v1 2 3)) => no
	`)
}

func TestLift(t *testing.T) {
	checkHere(t, `
		lift 1: (not (let v1 2 v1)) => (let v1 2 (not v1))
		lift 1: (+ (let v1 2 v1) 3) => (let v1 2 (+ v1 3))
		lift 2: (+ v3 (let v1 2 v1)) => (let v1 2 (+ v3 v1))
		lift 1: (+ (let v1 2 v1) (let v2 3 v2)) => (let v1 2 (+ v1 (let v2 3 v2)))
		lift 1: ((let v1 2 (lambda (v3) v3)) 5) => (let v1 2 ((lambda (v3) v3) 5))
		lift 1: ((let v1 2 v1)) => (let v1 2 (v1))
		lift 3: (v9 '() (let v1 (write 2) (write v1)) (write 3) (let v2 4 v2)) => (let v1 (write 2) (v9 '() (write v1) (write 3) (let v2 4 v2)))
		lift 4: (v9 1 nothing (let v1 (let v2 3 v2) (let v4 v1 v4))) => (let v1 (let v2 3 v2) (v9 1 nothing (let v4 v1 v4)))
		lift 1: ((let v1 v2 v2) v1) => (let v1 v2 (v2 v1))

		lift 0: (not (let v1 2 v1)) => no
		lift -1: (not (let v1 2 v1)) => no
		lift 2: (not (let v1 2 v1)) => no
		lift -9223372036854775808: (not (let v1 2 v1)) => no
		lift 9223372036854775807: (not (let v1 2 v1)) => no
		lift 1: (void) => no
		lift 0: (void) => no
		lift 2: ((lambda () 1) (let v1 2 v1)) => no
		lift 2: ('(1) (let v1 2 v1)) => no
		lift 2: ((v2) (let v1 2 v1)) => no
		lift 2: (cons (void) (let v1 2 v1)) => no
		lift 2: (+ (let v1 2 v1) (let v2 3 v2)) => no
		lift 2: (+ (let v1 2 v1) 3) => no
		lift 1: (+ 3 (let v1 2 v1)) => no
		lift 1: (not (begin 1 2)) => no
		lift 1: (begin (let v1 2 v1) 3) => no
		lift 1: (if (let v1 2 v1) 3 4) => no
		lift 1: (let v2 (let v1 2 v1) 3) => no
		lift 1: (lambda () (let v1 2 v1)) => no
		lift 1: (set! v3 (let v1 2 v1)) => no
	`)
	// Of each primitive, each place.
	for p := 1; p <= 38; p++ {
		for n := range arity(p) {
			kids := []api.Expr{numeral(8), numeral(9)}[:arity(p)]
			x, inner := primitive(p, slices.Clone(kids)...), primitive(p, slices.Clone(kids)...)
			x.Kids[n], inner.Kids[n] = parsed(t, "(let v1 2 v1)"), parsed(t, "v1")
			checkYes(t, x, Step{Rule: Lift, N: n + 1}, bind(1, numeral(2), inner))
		}
	}
}

// The last one of many.
func TestTheLast(t *testing.T) {
	const many = 1200
	kids := func(one api.Expr) []api.Expr { return slices.Repeat([]api.Expr{one}, many) }
	last := func(kids []api.Expr, x api.Expr) api.Expr {
		kids[len(kids)-1] = x
		return call(kids...)
	}
	called, test, short := call(variableOf(1)), choice(variableOf(1), numeral(2), numeral(3)), primitive(api.PVoid)
	body := lambda(false, nil, numeral(2))
	checkYes(t, bind(1, body, call(kids(called)...)), Step{Rule: Inline, N: many}, bind(1, body, last(kids(called), call(body))))
	checkYes(t, choice(variableOf(1), call(kids(test)...), numeral(4)), Step{Rule: Known, N: many}, choice(variableOf(1), last(kids(test), numeral(2)), numeral(4)))
	checkYes(t, choice(variableOf(1), numeral(4), call(kids(test)...)), Step{Rule: Known, N: many, No: true}, choice(variableOf(1), numeral(4), last(kids(test), numeral(3))))
	checkYes(t, bind(1, short, call(kids(short)...)), Step{Rule: Again, N: many}, bind(1, short, last(kids(short), variableOf(1))))
	constants := kids(numeral(5))
	checkYes(t, last(constants, bind(1, numeral(2), variableOf(1))), Step{Rule: Lift, N: many}, bind(1, numeral(2), last(kids(numeral(5)), variableOf(1))))
	for _, x := range []api.Expr{bind(1, body, call(kids(called)...)), choice(variableOf(1), call(kids(test)...), numeral(4)), bind(1, short, call(kids(short)...)), last(kids(numeral(5)), bind(1, numeral(2), variableOf(1)))} {
		for _, rule := range []int{Inline, Known, Again, Lift} {
			checkNo(t, x, Step{Rule: rule, N: many + 1})
		}
	}
}

// Of no other number there is a rule.
func TestNoSuchRule(t *testing.T) {
	for _, source := range []string{"(+ 1 2)", "(if #t 1 2)", "(begin 1 2)", "(let v1 1 v1)", "((lambda () 1))", "(not (let v1 2 v1))", "1", "(lambda () 1)"} {
		for _, rule := range []int{math.MinInt, -13, -1, 0, 14, 15, 256 + Fold, 1<<32 + Fold, 1<<32 + Branch, 1<<32 + Drop, math.MaxInt} {
			for _, n := range []int{-1, 0, 1} {
				checkNo(t, parsed(t, source), Step{Rule: rule, N: n})
			}
		}
	}
}

// fitting are expressions by the rule that they are of a form for.
var fitting = map[string]string{
	"fold": "(+ 1 2)", "branch": "(if #t 1 2)", "drop": "(begin 1 2)", "unused": "(let v1 1 2)", "copy": "(let v1 1 v1)", "beta": "((lambda (v1) v1) 5)",
	"inline 1": "(let v1 (lambda (v2) v2) (v1 5))", "again 1": "(let v1 (void) (void))", "not": "(if (not v1) 2 3)", "float": "(let v1 (let v2 3 4) 5)",
	"ahead": "(let v1 (begin 2 3) 4)", "known 1": "(if v1 (if v1 2 3) (if v1 4 5))", "known 1 no": "(if v1 (if v1 2 3) (if v1 4 5))", "lift 2": "(cons 1 (let v1 2 v1))",
}

// spoilt are expressions that differ from a Good one in one thing, by which they are not Good.
func spoilt(e api.Expr) []api.Expr {
	var out []api.Expr
	with := func(change func(*api.Expr)) {
		x, _ := core.At(e, nil)
		change(&x)
		out = append(out, x)
	}
	for _, v := range []int{-1, 0, greatest + 1} {
		if e.Kind == api.ExVar || e.Kind == api.ExLet {
			with(func(x *api.Expr) { x.V = v })
		}
		if e.Kind == api.ExLambda && len(e.Vars) > 0 {
			with(func(x *api.Expr) { x.Vars[0] = v })
		}
	}
	if e.Kind != api.ExVar && e.Kind != api.ExLet {
		with(func(x *api.Expr) { x.V = 1 })
	}
	if e.Kind != api.ExLambda {
		with(func(x *api.Expr) { x.Vars = []int{1} })
		with(func(x *api.Expr) { x.Rest = true })
	}
	if e.Kind != api.ExPrim {
		with(func(x *api.Expr) { x.P = 1 })
	}
	if e.Kind == api.ExConst {
		with(func(x *api.Expr) { x.D.Tail = []api.Datum{{Kind: api.Bool}} })
		with(func(x *api.Expr) { x.D = api.Datum{Kind: api.Num, I: api.Int{L: []uint32{1, 0}}} })
	} else {
		with(func(x *api.Expr) { x.D = api.Datum{Kind: api.Bool} })
	}
	if e.Kind != api.ExCall {
		with(func(x *api.Expr) { x.Kids = append(x.Kids, numeral(1)) })
	}
	if len(e.Kids) > 0 {
		with(func(x *api.Expr) { x.Kids = nil })
		with(func(x *api.Expr) { x.Kids = x.Kids[:len(x.Kids)-1] })
		with(func(x *api.Expr) { x.Kids[len(x.Kids)-1] = api.Expr{Kind: 10} })
		with(func(x *api.Expr) { x.Kids[len(x.Kids)-1] = bind(7, numeral(1), bind(7, numeral(2), numeral(3))) })
	}
	for i, kid := range e.Kids {
		for _, bad := range spoilt(kid) {
			with(func(x *api.Expr) { x.Kids[i] = bad })
		}
	}
	return out
}

// Here of what is not Good.
func TestHereOfNotGood(t *testing.T) {
	for how, source := range fitting {
		x, s := parsed(t, source), stepOf(how)
		if _, ok := Here(x, s, fresh); !ok {
			t.Errorf("Here of %s by %s: none", source, how)
		}
		count := 0
		for _, bad := range spoilt(x) {
			if core.Good(bad) {
				continue
			}
			count++
			checkNo(t, bad, s)
		}
		if count < 20 {
			t.Errorf("just %d of %s", count, source)
		}
	}
	for _, e := range odd() {
		for rule := range 15 {
			for _, n := range []int{-1, 0, 1, 2, 6000} {
				if core.Good(e) {
					continue
				}
				if got, ok := Here(e, Step{Rule: rule, N: n, No: n == 1}, fresh); ok || !isZero(got) {
					t.Errorf("Here of %s by %d: %s", text(e), rule, text(got))
				}
			}
		}
	}
}

// What does not end, or is too great, in the places that the rules look at.
func TestHereOfRings(t *testing.T) {
	var parts []api.Expr
	for kind := range 10 {
		parts = append(parts, ring(kind, api.PNot, 1), ring(kind, api.PCons, 2), ring(kind, api.PVoid, 300))
	}
	parts = append(parts, doubled(60, numeral(1)), chain(70000, numeral(1)), ring(api.ExSeq, 0, 100000))
	for _, part := range parts {
		for _, x := range []api.Expr{
			choice(variableOf(1), part, part), choice(part, part, part), bind(1, part, part), bind(1, lambda(false, []int{2}, part), part), bind(1, primitive(api.PVoid), part),
			bind(1, numeral(1), part), seq(numeral(1), part), seq(part, part), call(lambda(false, []int{1}, part), part), call(part, part), primitive(api.PNot, part),
			primitive(api.PCons, part, part), primitive(api.PCons, numeral(1), bind(1, part, part)), bind(1, bind(2, part, part), part), bind(1, seq(part, part), part),
		} {
			for rule := range 15 {
				if _, ok := Here(x, Step{Rule: rule, N: 2}, fresh); ok {
					t.Errorf("by %d: true", rule)
				}
			}
		}
	}
}
