package model

import (
	"strings"
	"testing"

	"pavane/api"
	"pavane/core"
)

// programs are sources, and how they end, with the input "ab".
const programs = `
	(+ 1 2) => 3
	(define x 1) (set! x (+ x 1)) x => 2
	(define x 1) => #v
	"hello" => "hello"
	(define (f n) (if (= n 0) 1 (* n (f (- n 1))))) (f 30) => 265252859812191058636308480000000
	(define (f n) (if (= n 0) 1 (* n (f (- n 1))))) (string-length (number->string (f 70))) => 101
	(define (even n) (if (= n 0) #t (odd (- n 1)))) (define (odd n) (if (= n 0) #f (even (- n 1)))) (even 1001) => #f
	(define (counter) (let ((n 0)) (lambda () (set! n (+ n 1)) n))) (define a (counter)) (define b (counter)) (a) (a) (b) (cons (a) (b)) => (3 . 2)
	(define (f . l) (set! l (cons 1 l)) l) (f 2 3) => (1 2 3)
	(do ((i 0 (+ i 1)) (s 0 (+ s i))) ((= i 10) s)) => 45
	(do ((i 0 (+ i 1))) ((= i 3) 'end) (write i) (newline)) => end | 0/1/2/
	(define (map f l) (if (null? l) '() (cons (f (car l)) (map f (cdr l))))) (map (lambda (x) (* x x)) '(1 2 3)) => (1 4 9)
	(define (map f l) (if (null? l) '() (cons (f (car l)) (map f (cdr l))))) (apply + (map string-length '("ab" "cde"))) => 5
	(define (append a b) (if (null? a) b (cons (car a) (append (cdr a) b)))) (append '(1 2) '(3 . 4)) => (1 2 3 . 4)
	(define (reverse l) (let loop ((l l) (r '())) (if (null? l) r (loop (cdr l) (cons (car l) r))))) (reverse '(1 2 3)) => (3 2 1)
	(define (fib n) (if (< n 2) n (+ (fib (- n 1)) (fib (- n 2))))) (fib 15) => 610
	(define (ack m n) (cond ((= m 0) (+ n 1)) ((= n 0) (ack (- m 1) 1)) (else (ack (- m 1) (ack m (- n 1)))))) (ack 2 3) => 9
	(define (tak x y z) (if (< y x) (tak (tak (- x 1) y z) (tak (- y 1) z x) (tak (- z 1) x y)) z)) (tak 7 4 2) => 4
	(define k #f) (define n 0) (write (call/cc (lambda (c) (set! k c) 0))) (set! n (+ n 1)) (if (< n 4) (k n)) n => 4 | 0123
	(define (find p l) (call/cc (lambda (return) (let loop ((l l)) (if (null? l) #f (begin (if (p (car l)) (return (car l))) (loop (cdr l)))))))) (find (lambda (x) (< 2 x)) '(1 2 3 4)) => 3
	(define (gen l) (define return #f) (define (next) (call/cc (lambda (r) (set! return r) (let loop ((l l)) (if (null? l) (return 'done) (begin (call/cc (lambda (k) (set! next (lambda () (k #f))) (return (car l)))) (loop (cdr l)))))))) (lambda () (call/cc (lambda (r) (set! return r) (next))))) (define g (gen '(1 2))) (let* ((a (g)) (b (g)) (c (g))) (cons a (cons b (cons c '())))) => (1 2 done)
	(define fail #f) (define (amb . l) (call/cc (lambda (k) (define old fail) (let loop ((l l)) (if (null? l) (begin (set! fail old) (fail 0)) (begin (call/cc (lambda (next) (set! fail next) (k (car l)))) (loop (cdr l)))))))) (set! fail (lambda (x) (raise 'none))) (define a (amb 1 2 3 4 5 6 7)) (define b (amb 1 2 3 4 5 6 7)) (define c (amb 1 2 3 4 5 6 7)) (if (= (* c c) (+ (* a a) (* b b))) (write (cons a (cons b c))) (fail 0)) (fail 0) => error: raise none | (3 4 . 5)(4 3 . 5)
	(define l '(1 2 3)) (set-cdr! (cdr (cdr l)) l) (car (cdr (cdr (cdr (cdr l))))) => 2
	(define-syntax swap! (syntax-rules () ((_ a b) (let ((tmp a)) (set! a b) (set! b tmp))))) (define tmp 1) (define y 2) (swap! tmp y) (cons tmp y) => (2 . 1)
	(define (read-all) (let ((b (read-byte))) (if b (cons b (read-all)) '()))) (read-all) => (97 98)
	(case (read-byte) ((1 2) 'few) ((97) 'a) (else 'else)) => a
	(let loop ((i 0)) (if (< i 3) (begin (display i) (display "-") (loop (+ i 1))) (raise (cons i "end")))) => error: raise (3 . "end") | 0-1-2-
	(write 'a) (car 5) (write 'b) => error: type | a
	(display "x") ((lambda (a) a)) => error: arity | x
	(quotient 5 (- 2 2)) => error: zero
	(define (f) (g)) (define (g) h) (define h 7) (f) => 7
	(letrec ((a (lambda () b)) (b 1)) (a)) => 1
	(define (f x) (if (< x 1) '() (cons x (f (- x 1))))) (f 12) => (12 11 10 9 8 7 6 5 4 3 2 1)
	(define x 0) (define (g) (set! x (+ x 1)) x) (cons (g) (cons (g) (g))) => (1 2 . 3)
	(string-append "a" (string-append (symbol->string 'b) (number->string -3))) => "ab-3"
	(and 1 2 #f (write 'no)) => #f
	(or #f #f (begin (write 'yes) 5) (write 'no)) => 5 | yes
	(define b (box '())) (define (push x) (set-box! b (cons x (unbox b)))) (push 1) (push 2) (unbox b) => (2 1)
	(define (compose . l) (if (null? l) (lambda (x) x) (lambda (x) ((car l) ((apply compose (cdr l)) x))))) ((compose (lambda (x) (* x 2)) (lambda (x) (+ x 1))) 5) => 12
	(define (hanoi n a b c) (if (= n 0) 0 (+ (hanoi (- n 1) a c b) 1 (hanoi (- n 1) c b a)))) (hanoi 6 'a 'b 'c) => 63
	(define (primes n) (let loop ((i 2) (l '())) (if (= i n) l (loop (+ i 1) (if (let test ((l l)) (cond ((null? l) #t) ((= 0 (modulo i (car l))) #f) (else (test (cdr l))))) (cons i l) l))))) (primes 20) => (19 17 13 11 7 5 3 2)
	(define (f n) (if (= n 0) (car '()) (+ 1 (f (- n 1))))) (f 10) => error: type
	(let ((x 1)) (let ((k (call/cc (lambda (c) c)))) (set! x (+ x 1)) (if (< x 5) (k k) x))) => 5
	((lambda (x) (x x)) (lambda (x) (x x))) => error: fuel
`

// Programs end as they should, with variables that are set and with boxes in their place, as they do when they are run in another way; with less fuel they write a beginning.
func TestPrograms(t *testing.T) {
	for _, line := range strings.Split(strings.TrimSpace(programs), "\n") {
		source, want, _ := strings.Cut(strings.TrimSpace(line), " => ")
		want = strings.ReplaceAll(want, "/", "\n")
		e := program(t, source)
		got := agree(t, e, "ab", 200000)
		if told(got) != want {
			t.Errorf("%s: %s, want %s", source, cut(told(got)), want)
		}
		boxed, err := core.Boxes(e)
		if err != api.OK {
			t.Fatalf("Boxes of %s: %v", source, err)
		}
		if other := Run(boxed, []byte("ab"), 400000); other != got {
			t.Errorf("Boxes of %s: %s, want %s", source, cut(told(other)), cut(told(got)))
		}
		follows(t, e, "ab", 200000)
	}
}

// follows is P10.5, of e with some fuels.
func follows(t *testing.T, e api.Expr, input string, most int) {
	t.Helper()
	last := Run(e, []byte(input), 0)
	for fuel := 1; fuel < most; fuel += 1 + fuel/3 {
		now := Run(e, []byte(input), fuel)
		if last.Err != api.ErrFuel && now != last || !strings.HasPrefix(now.Out, last.Out) || now.Err == api.ErrFuel && now.Value != "" {
			t.Fatalf("%s with %d: %s; with less: %s", cut(core.Write(e)), fuel, cut(told(now)), cut(told(last)))
		}
		last = now
	}
}
