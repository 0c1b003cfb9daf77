package proof

import (
	"slices"
	"strings"
	"testing"

	"pavane/api"
	"pavane/core"
	"pavane/rule"
)

// checkOne holds Check, and All of one proof, against what they should say; what is accepted means the same, and is held itself without steps.
func checkOne(t *testing.T, e api.Expr, p Proof, want api.Expr, accepted bool) {
	t.Helper()
	if got, ok := Check(e, p); ok != accepted || !exactly(got, want) {
		t.Errorf("Check of %s by %s, which claims %s: %s, %t, want %s, %t", text(e), stepsText(p.Steps), text(p.Claim), text(got), ok, text(want), accepted)
	}
	if got, said := All(e, []Proof{p}); !slices.Equal(said, []bool{accepted}) || !exactly(got, want) {
		t.Errorf("All of %s by %s, which claims %s: %s, %v, want %s, %t", text(e), stepsText(p.Steps), text(p.Claim), text(got), said, text(want), accepted)
	}
	if !accepted {
		return
	}
	meansTheSame(t, e, want)
	if got, ok := Check(want, Proof{Claim: want}); !ok || !exactly(got, want) {
		t.Errorf("Check of %s by no steps: %s, %t", text(want), text(got), ok)
	}
}

// Each line: steps: an expression | a claim, and whether it is accepted.
func TestCheck(t *testing.T) {
	for _, line := range lines(`
		fold: (+ 1 2) | 3 yes
		fold: (+ 1 2) | 4 no
		fold: (+ 1 2) | "3" no
		fold: (+ 1 2) | '|3| no
		fold: (+ 1 2) | -3 no
		fold: (+ 1 2) | (+ 1 2) no
		fold: (+ 1 2) | v1 no
		fold: (+ 4294967295 1) | 4294967296 yes
		fold: (+ 4294967295 1) | 0 no
		fold: (- 1 1) | 0 yes

		-: (+ 1 2) | (+ 1 2) yes
		-: (+ 1 2) | 3 no
		-: (+ 1 2) | (+ 2 1) no
		-: (+ 1 2) | (* 1 2) no
		-: '(1 (2) . 3) | '(1 (2) . 3) yes
		-: '(1 (2) . 3) | '(1 (2) 3) no
		-: '(1 (2) . 3) | '(1 (2) . 4) no
		-: v1 | v1 no
		-: (set! v1 2) | (set! v1 2) no
		-: (let v1 2 (set! v1 3)) | (let v1 2 (set! v1 3)) no
		-: (+ 1) | (+ 1) no

		fold at 1: (+ 1 (+ 2 3)) | (+ 1 5) yes
		fold at 1: (+ 1 (+ 2 3)) | 6 no
		fold at 1: (+ 1 (+ 2 3)) | (+ 1 (+ 2 3)) no
		fold at 1; fold: (+ 1 (+ 2 3)) | 6 yes
		fold at 1; fold: (+ 1 (+ 2 3)) | (+ 1 5) no
		fold at 1; fold: (+ 1 (+ 2 3)) | 5 no

		beta: ((lambda (v1) v1) 5) | (let v1 5 v1) yes
		beta: ((lambda (v1) v1) 5) | (let v2 5 v2) no
		beta: ((lambda (v1) v1) 5) | (let v1 5 v2) no
		beta; copy: ((lambda (v1) v1) 5) | 5 yes
		-: (lambda (v1 . v2) v2) | (lambda (v1 . v2) v2) yes
		-: (lambda (v1 . v2) v2) | (lambda (v1 v2) v2) no
		-: (lambda (v1 . v2) v2) | (lambda (v2 . v1) v1) no
		-: (lambda (v1 . v2) v2) | (lambda (v1 . v2) v1) no
		-: (lambda (v1 v2) 3) | (lambda (v2 v1) 3) no
		-: (lambda (v1) 3) | (lambda (v9) 3) no
		-: (let v1 2 3) | (let v9 2 3) no
		inline 1: (let v1 (lambda (v2) v2) (v1 5)) | (let v1 (lambda (v2) v2) ((lambda (v3) v3) 5)) yes
		inline 1: (let v1 (lambda (v2) v2) (v1 5)) | (let v1 (lambda (v2) v2) ((lambda (v4) v4) 5)) no
		inline 1: (let v1 (lambda (v2) v2) (v1 5)) | (let v1 (lambda (v2) v2) ((lambda (v2) v2) 5)) no

		fold: (+ 1 "a") | (+ 1 "a") no
		fold: 5 | 5 no
		fold at 1; fold at 1: (+ 1 (+ 2 3)) | (+ 1 (+ 2 3)) no
		fold at 1; fold at 1: (+ 1 (+ 2 3)) | (+ 1 5) no
		fold at 1; fold; fold: (+ 1 (+ 2 3)) | 6 no
		fold at 1; fold; fold: (+ 1 (+ 2 3)) | (+ 1 (+ 2 3)) no
		inline 1: (let v1000000 (lambda (v2) v2) (v1000000 5)) | (let v1000000 (lambda (v2) v2) (v1000000 5)) no
		fold at 1 1: (let v1 2 (begin (set! v1 3) (+ 1 2))) | (let v1 2 (begin (set! v1 3) (+ 1 2))) no
		fold at 1 1: (let v1 2 (begin (set! v1 3) (+ 1 2))) | (let v1 2 (begin (set! v1 3) 3)) no
	`) {
		how, rest, _ := strings.Cut(line, ": ")
		source, rest, ok := strings.Cut(rest, " | ")
		claimed, accepted := strings.CutSuffix(rest, " yes")
		claimed, refused := strings.CutSuffix(claimed, " no")
		if !ok || accepted == refused {
			t.Fatalf("not a line of a table: %s", line)
		}
		e, claim := parsed(t, source), parsed(t, claimed)
		want := e
		if accepted {
			want = claim
		}
		checkOne(t, e, Proof{Steps: stepsOf(how), Claim: claim}, want, accepted)
	}
}

// A claim that is Alike to what comes out is not accepted, if it is not the Same.
func TestCheckOfAlike(t *testing.T) {
	e := parsed(t, "(let v1 (lambda (v2 . v3) (let v4 v2 (cons v4 v3))) (v1 5 (+ 1 2)))")
	l := stepsOf("inline 1; fold at 1 2")
	made, _, err := Run(e, l)
	if err != api.OK {
		t.Fatal(err)
	}
	for _, from := range []int{1, 2, 5, 6, 100, 999000} {
		claim, _ := core.Fresh(made, from)
		if !core.Alike(claim, made) {
			t.Fatalf("%s and %s are not alike", text(claim), text(made))
		}
		same := exactly(claim, made)
		if same != (from == 1) {
			t.Fatalf("%s: the test has lost its point", text(claim))
		}
		want := e
		if same {
			want = made
		}
		checkOne(t, e, Proof{l, claim}, want, same)
	}
}

// What is no expression is not what comes out of steps, however near it is.
func TestCheckOfOddClaims(t *testing.T) {
	three := numeral(3)
	e, l := parsed(t, "(+ 1 2)"), stepsOf("fold")
	claims := append(odd(t), begins(4999, three), begins(60000, three), nots(9999, three), nots(10001, three))
	for _, change := range []func(*api.Expr){
		func(x *api.Expr) { x.V = 3 },
		func(x *api.Expr) { x.P = api.PAdd },
		func(x *api.Expr) { x.Rest = true },
		func(x *api.Expr) { x.Vars = []int{1} },
		func(x *api.Expr) { x.Kids = []api.Expr{{}} },
		func(x *api.Expr) { x.D.S = "3" },
		func(x *api.Expr) { x.D.B = true },
		func(x *api.Expr) { x.D.Items = []api.Datum{{}} },
		func(x *api.Expr) { x.D.Tail = []api.Datum{{}} },
		func(x *api.Expr) { x.D.I.Neg = true },
		func(x *api.Expr) { x.D.I.L = []uint32{3, 1} },
		func(x *api.Expr) { x.D.I.L = nil },
		func(x *api.Expr) { x.D.Kind = api.Bool },
		func(x *api.Expr) { x.Kind = api.ExVar },
	} {
		claim := three
		change(&claim)
		claims = append(claims, claim)
	}
	for _, claim := range claims {
		if core.Same(claim, three) {
			// A number in another form: see the next test.
			continue
		}
		checkOne(t, e, Proof{l, claim}, e, false)
		checkOne(t, three, Proof{Claim: claim}, three, false)
		checkOne(t, seq(three, e), Proof{stepsOf("drop"), claim}, seq(three, e), false)
	}
}

// A claim in which numbers are the Same but have another form is no Good one: what is told is, and means the same.
func TestCheckOfOtherForms(t *testing.T) {
	number := func(neg bool, l ...uint32) api.Datum {
		return api.Datum{Kind: api.Num, I: api.Int{Neg: neg, L: l}}
	}
	for _, c := range []struct {
		source, steps, want string
		claim               api.Expr
	}{
		{"(+ 1 2)", "fold", "3", constant(number(false, 3, 0))},
		{"3", "-", "3", constant(number(false, 3, 0, 0, 0))},
		{"-3", "-", "-3", constant(number(true, 3, 0))},
		{"(- 1 1)", "fold", "0", constant(number(true))},
		{"(- 1 1)", "fold", "0", constant(number(true, 0, 0))},
		{"(begin 1 '(0 . 7))", "drop", "'(0 . 7)", constant(api.Datum{Kind: api.List, Items: []api.Datum{number(true)}, Tail: []api.Datum{number(false, 7, 0)}})},
	} {
		e, want := parsed(t, c.source), parsed(t, c.want)
		if core.Good(c.claim) || !core.Same(c.claim, want) {
			t.Fatalf("%s: the test has lost its point", c.source)
		}
		checkOne(t, e, Proof{stepsOf(c.steps), c.claim}, want, true)
		next := Proof{Claim: want}
		if got, said := All(e, []Proof{{stepsOf(c.steps), c.claim}, next}); !slices.Equal(said, []bool{true, true}) || !exactly(got, want) {
			t.Errorf("All of %s: %s, %v", c.source, text(got), said)
		}
	}
}

// What is not May is never accepted, whatever is claimed.
func TestCheckOfOdd(t *testing.T) {
	for _, e := range odd(t) {
		if size := core.Size(e); size == 0 || size > 2*mostItems {
			continue
		}
		for _, claim := range []api.Expr{e, {}, numeral(3)} {
			for _, l := range [][]rule.Step{nil, stepsOf("fold"), stepsOf("drop"), drops(most + 1)} {
				checkOne(t, e, Proof{l, claim}, e, false)
			}
		}
		if got, said := All(e, nil); len(said) > 0 || !exactly(got, e) {
			t.Errorf("All of %s and no proofs: %s, %v", text(e), text(got), said)
		}
	}
}

// A proof of too many steps is not accepted, though all of them go.
func TestCheckOfManySteps(t *testing.T) {
	five := numeral(5)
	checkOne(t, begins(most, five), Proof{drops(most), five}, five, true)
	checkOne(t, begins(most+1, five), Proof{drops(most + 1), five}, begins(most+1, five), false)
	checkOne(t, begins(most+1, five), Proof{drops(most + 1), begins(most+1, five)}, begins(most+1, five), false)
	// The bound is each proof's own.
	const part = most * 2 / 3
	l := []Proof{{drops(part), begins(part, five)}, {drops(part), five}}
	if got, said := All(begins(2*part, five), l); !slices.Equal(said, []bool{true, true}) || !exactly(got, five) {
		t.Errorf("All of two proofs of more steps together than one may have: %s, %v", text(got), said)
	}
}

// Each line: an expression => what comes out; the lines behind it: steps | a claim, and whether it is accepted.
func TestAll(t *testing.T) {
	for block := range strings.SplitSeq(`
		(+ 1 (+ 2 3)) => (+ 1 (+ 2 3))
		---
		(+ 1 (+ 2 3)) => (+ 1 5)
		fold at 1 | (+ 1 5) yes
		---
		(+ 1 (+ 2 3)) => 6
		fold at 1 | (+ 1 5) yes
		fold | 6 yes
		- | 6 yes
		- | (+ 1 5) no
		---
		(+ 1 (+ 2 3)) => 6
		fold | 6 no
		fold at 1 | (+ 1 6) no
		fold | 6 no
		fold at 1 | (+ 1 5) yes
		fold at 1 | (+ 1 5) no
		fold | 7 no
		fold at 1; fold | 6 no
		fold | 6 yes
		fold | 6 no
		---
		(+ 1 (+ 2 3)) => (+ 1 (+ 2 3))
		fold | 6 no
		fold at 1 | (+ 1 (+ 2 3)) no
		fold at 1; fold at 1 | (+ 1 5) no
		fold at 1; fold | 7 no
		---
		(+ 1 (+ 2 3)) => (+ 1 5)
		fold at 1; fold | (+ 1 5) no
		- | (+ 1 (+ 2 3)) yes
		fold at 1 | (+ 1 5) yes
		- | (+ 1 5) yes
		- | (+ 1 (+ 2 3)) no
		---
		(let v1 (lambda (v2) v2) (cons (v1 5) (v1 6))) => (let v1 (lambda (v2) v2) (cons ((lambda (v3) v3) 5) ((lambda (v4) v4) 6)))
		inline 1 | (let v1 (lambda (v2) v2) (cons ((lambda (v3) v3) 5) (v1 6))) yes
		inline 1 | (let v1 (lambda (v2) v2) (cons ((lambda (v3) v3) 5) ((lambda (v3) v3) 6))) no
		inline 2 | (let v1 (lambda (v2) v2) (cons ((lambda (v3) v3) 5) ((lambda (v4) v4) 6))) no
		inline 1 | (let v1 (lambda (v2) v2) (cons ((lambda (v3) v3) 5) ((lambda (v4) v4) 6))) yes
		---
		(+ v1 (+ 2 3)) => (+ v1 (+ 2 3))
		fold at 1 | (+ v1 5) no
		- | (+ v1 (+ 2 3)) no
		---
		(write ((lambda (v1) v1) (read-byte))) => (write (let v1 (read-byte) v1))
		beta at 0 | (write (let v2 (read-byte) v2)) no
		beta at 0; copy at 0 | (write (read-byte)) no
		beta at 0 | (write (let v1 (read-byte) v1)) yes
		copy at 0 | (write (read-byte)) no
		unused at 0 | (write v1) no
	`, "---") {
		l := lines(block)
		source, wanted, ok := strings.Cut(l[0], " => ")
		if !ok {
			t.Fatalf("not a line of a table: %s", l[0])
		}
		e, want := parsed(t, source), parsed(t, wanted)
		var proofs []Proof
		var says []bool
		for _, line := range l[1:] {
			how, rest, ok := strings.Cut(line, " | ")
			claim, accepted := strings.CutSuffix(rest, " yes")
			claim, refused := strings.CutSuffix(claim, " no")
			if !ok || accepted == refused {
				t.Fatalf("not a line of a table: %s", line)
			}
			proofs = append(proofs, Proof{stepsOf(how), parsed(t, claim)})
			says = append(says, accepted)
		}
		checkAll(t, e, proofs, want, says)
		meansTheSame(t, e, want)
	}
}

// checkAll holds All against what it should tell, also of the first of the proofs alone, and against Check of each.
func checkAll(t *testing.T, e api.Expr, l []Proof, want api.Expr, says []bool) {
	t.Helper()
	if got, said := All(e, l); !slices.Equal(said, says) || !exactly(got, want) {
		t.Errorf("All of %s: %s, %v, want %s, %v", text(e), text(got), said, text(want), says)
	}
	ahead := e
	for n := range len(l) + 1 {
		if got, said := All(e, l[:n]); !slices.Equal(said, says[:n]) || !exactly(got, ahead) {
			t.Errorf("All of %s and the first %d: %s, %v, want %s, %v", text(e), n, text(got), said, text(ahead), says[:n])
		}
		if got, said := All(ahead, l[n:]); !slices.Equal(said, says[n:]) || !exactly(got, want) {
			t.Errorf("All of %s and those behind %d: %s, %v, want %s, %v", text(ahead), n, text(got), said, text(want), says[n:])
		}
		if n < len(l) {
			ahead, _ = Check(ahead, l[n])
		}
	}
}

// All of many proofs, of which one in the middle is not accepted.
func TestAllOfMany(t *testing.T) {
	const n = 60
	five := numeral(5)
	e := begins(n, five)
	var l []Proof
	says := slices.Repeat([]bool{true}, n)
	for i := range n {
		l = append(l, Proof{drops(1), begins(n-1-i, five)})
	}
	checkAll(t, e, l, five, says)
	for _, bad := range []int{0, 1, n / 2, n} {
		for _, p := range []Proof{{}, {Claim: five}, {drops(n), five}, {[]rule.Step{{}}, begins(n-bad, five)}, {drops(1), begins(n-bad, five)}, {drops(most + 1), five}} {
			if bad == 0 && len(p.Steps) == n || bad == n && len(p.Steps) == 0 && exactly(p.Claim, five) {
				continue
			}
			got, said := All(e, slices.Insert(slices.Clone(l), bad, p))
			if !slices.Equal(said, slices.Insert(slices.Clone(says), bad, false)) || !exactly(got, five) {
				t.Errorf("All with %s, which claims %s, at %d: %s, %v", stepsText(p.Steps), text(p.Claim), bad, text(got), said)
			}
		}
	}
}

// Each line: steps: an expression => what Of claims.
func TestOf(t *testing.T) {
	for _, line := range lines(`
		-: (+ 1 2) => (+ 1 2)
		fold: (+ 1 2) => 3
		fold at 1; fold: (+ 1 (+ 2 3)) => 6
		fold at 1; fold; fold: (+ 1 (+ 2 3)) => (+ 1 (+ 2 3))
		fold at 1; known 7 no at 5 -1 9: (+ 1 (+ 2 3)) => (+ 1 (+ 2 3))
		inline 1; fold at 0: (let v1000000 (lambda (v2) v2) (v1000000 5)) => (let v1000000 (lambda (v2) v2) (v1000000 5))
		fold at 1: (+ v1 (+ 2 3)) => (+ v1 (+ 2 3))
		-: v1 => v1
	`) {
		how, rest, _ := strings.Cut(line, ": ")
		source, want, _ := strings.Cut(rest, " => ")
		e, l := parsed(t, source), stepsOf(how)
		p := Of(e, l)
		if !exactlySteps(p.Steps, l) || !exactly(p.Claim, parsed(t, want)) {
			t.Errorf("%s: %s, %s", line, stepsText(p.Steps), text(p.Claim))
		}
		_, _, err := Run(e, l)
		checkOne(t, e, p, p.Claim, err == api.OK)
	}
	five := numeral(5)
	if p := Of(begins(most+1, five), drops(most+1)); !exactlySteps(p.Steps, drops(most+1)) || !exactly(p.Claim, begins(most+1, five)) {
		t.Errorf("Of of too many steps: %d, %s", len(p.Steps), text(p.Claim))
	}
	if p := Of(api.Expr{}, nil); len(p.Steps) > 0 || !exactly(p.Claim, api.Expr{}) {
		t.Errorf("Of of nothing: %s, %s", stepsText(p.Steps), text(p.Claim))
	}
}
