package proof

import (
	"slices"
	"testing"

	"pavane/api"
	"pavane/core"
	"pavane/expand"
	"pavane/reader"
	"pavane/rule"
)

// programs have loops, closures, continuations that are called again, and things that change.
const programs = `
	(+ (* 2 3) (if (not (< 1 2)) 4 (quotient 17 5)))
	(let ((x 1) (y (cons 2 3))) (begin (write x) (set-car! y x) (if x (if x (cons x y) 5) 6)))
	(define (fact n) (if (= n 0) 1 (* n (fact (- n 1))))) (fact 10)
	(define (loop i l) (if (< i 5) (loop (+ i 1) (cons i l)) l)) (write (loop 0 '())) (newline)
	(let ((k #f) (n 0)) (let ((x (call/cc (lambda (c) (set! k c) 1)))) (set! n (+ n x)) (if (< n 10) (k n) (cons x n))))
	(let loop ((i 0)) (cond ((read-byte) => (lambda (b) (write b) (loop (+ i 1)))) (else i)))
	(define-syntax swap! (syntax-rules () ((_ a b) (let ((t a)) (set! a b) (set! b t))))) (let ((x 1) (y 2)) (swap! x y) (cons x y))
	(let* ((p (cons 1 2)) (q p)) (set-car! p 9) (if (eq? p q) (raise (cons 'same p)) 0))
	(let ((f (lambda (x) (* x x)))) (write (f 3)) (let ((a (+ 1 2)) (b (+ 1 2))) (car (f a))))
	(let loop () (loop))
	((lambda (f) (f f 3)) (lambda (f n) (if (< n 1) (car n) (f f (- n 1)))))
	((lambda (a b) (let ((c (read-byte))) (if c (if c (cons a c) b) (if c 7 (cons b c))))) (string-append "a" "b") (begin (display 'x) 8))
`

// expressions are such as rules may be used in again and again.
const expressions = `
	(let v1 (lambda (v2) (cons v2 v2)) (v1 (v1 (v1 (begin (write 5) (+ 1 2))))))
	(let v1 (lambda (v2 v3) (if v2 (if v2 v3 4) (if v2 5 (not v3)))) (cons (v1 #t (read-byte)) (v1 (not #t) (v1 #f 6))))
	(let v1 (let v2 (begin (display "a") (+ 1 2)) (let v3 (* v2 v2) (cons (* v2 v2) v3))) (if (not (pair? v1)) (car 5) (cdr v1)))
	(let v1 (read-byte) (let v2 (+ v1 1) (let v3 (lambda (v4) (+ v1 1)) (cons (v3 (+ v1 1)) (cons (+ v1 1) v2)))))
	((lambda (v1 v2) (begin (if (not (not v1)) (write v1) (write v2)) (begin (lambda (v3) v3) (v2 v1)))) (read-byte) (lambda (v4) (if v4 (if v4 (call/cc (lambda (v5) (v5 v4))) 1) 2)))
	(let v1 (lambda (v2) (v2 v2)) (v1 (lambda (v3 . v4) (begin (write (null? v4)) (raise (cons v3 (eq? v3 v3)))))))
`

// sources are what steps are taken from.
func sources(t *testing.T) []api.Expr {
	t.Helper()
	var out []api.Expr
	for _, source := range lines(programs) {
		out = append(out, programOf(t, source))
	}
	for _, source := range lines(expressions) {
		out = append(out, parsed(t, source))
	}
	return out
}

func programOf(t *testing.T, source string) api.Expr {
	t.Helper()
	l, place, err := reader.All(source)
	if err != api.OK {
		t.Fatalf("%s: %v at %d", source, err, place)
	}
	e, which, err := expand.Program(l)
	if err != api.OK {
		t.Fatalf("%s: %v in %d", source, err, which)
	}
	if e, err = core.Boxes(e); err != api.OK {
		t.Fatalf("%s: %v", source, err)
	}
	return e
}

// picker tells a row of numbers, which is the same each time.
type picker uint64

// pick is a number below n.
func (p *picker) pick(n int) int {
	*p = *p*6364136223846793005 + 1442695040888963407
	return int(*p>>33) % n
}

// tries are all steps that are worth a try in one place.
func tries() []rule.Step {
	var out []rule.Step
	for r := 1; r <= 13; r++ {
		out = append(out, rule.Step{Rule: r, N: 1}, rule.Step{Rule: r, N: 2}, rule.Step{Rule: r, N: 1, No: true})
	}
	return out
}

// fitting are all steps that e may take.
func fitting(e api.Expr) []rule.Step {
	var out []rule.Step
	var walk func(x api.Expr, path []int)
	walk = func(x api.Expr, path []int) {
		for _, s := range tries() {
			if _, ok := rule.Here(x, s, 100000); ok {
				s.Path = slices.Clone(path)
				out = append(out, s)
			}
		}
		for i, kid := range x.Kids {
			walk(kid, append(path, i))
		}
	}
	walk(e, nil)
	return out
}

// wander takes steps from e on, and tells them, and all that came out, e first.
func (p *picker) wander(t *testing.T, e api.Expr, most int) ([]rule.Step, []api.Expr) {
	t.Helper()
	var l []rule.Step
	became := []api.Expr{e}
	for len(l) < most {
		fits := fitting(e)
		if len(fits) == 0 || core.Size(e) > 400 {
			break
		}
		s := fits[p.pick(len(fits))]
		next, err := rule.Apply(e, s)
		if err != api.OK {
			t.Fatalf("Apply to %s by %s: %v", text(e), stepsText([]rule.Step{s}), err)
		}
		e = next
		l = append(l, s)
		became = append(became, e)
	}
	return l, became
}

// What comes out of each beginning of many steps, and of parts of them, is what rule's Apply tells one by one; of all that was and will be just that is accepted; and it means the same.
func TestWander(t *testing.T) {
	steps := 0
	for i, e := range sources(t) {
		for seed := range 4 {
			p := picker(100*i + seed)
			l, became := p.wander(t, e, 25)
			steps += len(l)
			for n := range len(l) + 1 {
				checkRun(t, e, l[:n], became[n], n, api.OK)
				from := p.pick(n + 1)
				checkRun(t, became[from], l[from:n], became[n], n-from, api.OK)
				bad := append(slices.Clone(l[:n]), rule.Step{Rule: p.pick(40) - 5, Path: []int{p.pick(5), -1}, N: 1})
				checkFails(t, e, append(bad, l[n:]...), n, api.ErrProof)
				holdsClaims(t, e, l[:n], became, n)
				meansTheSame(t, e, became[n])
			}
			p.inParts(t, l, became)
			if t.Failed() {
				return
			}
		}
	}
	if steps < 500 {
		t.Errorf("just %d steps", steps)
	}
}

// holdsClaims: of all that e became, just what came out of these steps is accepted.
func holdsClaims(t *testing.T, e api.Expr, l []rule.Step, became []api.Expr, n int) {
	t.Helper()
	for _, claim := range became {
		// A step may make what was there before.
		same := exactly(claim, became[n])
		want := e
		if same {
			want = became[n]
		}
		if got, ok := Check(e, Proof{l, claim}); ok != same || !exactly(got, want) {
			t.Errorf("Check of %s by %s, which claims %s: %s, %t", text(e), stepsText(l), text(claim), text(got), ok)
		}
	}
}

// inParts holds All of proofs that each have some of the steps, lies among them, against what came out.
func (p *picker) inParts(t *testing.T, l []rule.Step, became []api.Expr) {
	t.Helper()
	var proofs []Proof
	var says []bool
	add := func(proof Proof, ok bool) {
		proofs = append(proofs, proof)
		says = append(says, ok)
	}
	for at := 0; at < len(l); {
		to := at + p.pick(min(4, len(l)-at)+1)
		made := became[to]
		switch p.pick(5) {
		case 0:
			add(Proof{l[at:to], seq(made, made)}, false)
		case 1:
			add(Proof{l[at:to], api.Expr{}}, false)
		case 2:
			add(Proof{append(slices.Clone(l[at:to]), rule.Step{}), made}, false)
		default:
			add(Of(became[at], l[at:to]), true)
			at = to
		}
	}
	if got, said := All(became[0], proofs); !slices.Equal(said, says) || !exactly(got, became[len(l)]) {
		t.Errorf("All of %s: %s, %v, want %s, %v", text(became[0]), text(got), said, text(became[len(l)]), says)
	}
}

// Whatever is claimed by steps that nobody looked for, what is told means what e means.
func TestWild(t *testing.T) {
	accepted, refused := 0, 0
	for i, e := range sources(t) {
		p := picker(1000 + i)
		fits := fitting(e)
		if len(fits) == 0 {
			continue
		}
		for range 60 {
			var l []rule.Step
			for range p.pick(4) {
				l = append(l, fits[p.pick(len(fits))])
			}
			claim := Of(e, l).Claim
			if p.pick(4) == 0 && len(claim.Kids) > 0 {
				claim.Kids[p.pick(len(claim.Kids))] = numeral(1)
			}
			proofs := []Proof{{l, claim}, {l, e}, Of(claim, l)}
			got, said := All(e, proofs)
			one, ok := Check(e, proofs[0])
			if ok != said[0] || !ok && !exactly(one, e) || ok && !exactly(one, claim) {
				t.Errorf("Check of %s by %s, which claims %s: %s, %t, All says %v", text(e), stepsText(l), text(claim), text(one), ok, said)
			}
			if ok {
				accepted++
			} else {
				refused++
			}
			meansTheSame(t, e, one)
			meansTheSame(t, e, got)
			if t.Failed() {
				return
			}
		}
	}
	if accepted < 100 || refused < 100 {
		t.Errorf("%d accepted, %d not", accepted, refused)
	}
}
