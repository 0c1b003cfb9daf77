package expand

import (
	"slices"
	"strings"
	"testing"

	"pavane/api"
	"pavane/write"
)

// renamable are programs in which each of A to F is a variable, a macro or a pattern's variable, wherever it stands.
var renamable = []string{
	"(lambda (A) A)",
	"(lambda (A . B) (A B (lambda B (A B))))",
	"((lambda (A B) (set! A (car B)) (lambda (C) (A B C))) 1 2)",
	"(define A 1) (define (B C) (A C)) (B A)",
	"(define (A B) (define C B) (define (D E) (C E)) (D C)) (A 1)",
	"(lambda (A) (or 1 A))",
	"(lambda (A B) (or A B) (and A B) (when A B) (unless A B))",
	"(lambda (A) (cond (1 A) (A 2) (A => A) (A) (else A)))",
	"(lambda (A) (case A ((1 2 3) A) (else A)))",
	"(lambda (A) (case (A) ((1 2 3) A) (else A)))",
	"(lambda (A) (do ((B 1 (A B)) (C 2)) ((A B C) A B) (A C)))",
	"(let ((A 1) (B 2)) (let* ((C A) (D (car C))) (letrec ((E (lambda (F) (E F D)))) (E A B))))",
	"(let A ((B 1)) (if B (A (cdr B))))",
	"(define-syntax A (syntax-rules () ((_ B C) (let ((D B)) (set! B C) (set! C D))))) (lambda (E F) (A E F) (A F E))",
	"(define-syntax A (syntax-rules () ((_ B) (lambda (C) (B C))))) (lambda (C) (A C))",
	"(define-syntax A (syntax-rules (B) ((_ B) 1) ((_ C) 2))) (A B) (lambda (B) (A B))",
	"(lambda (A) (let-syntax ((B (syntax-rules () ((_ C) (A C))))) (lambda (A) (B A))))",
	"(lambda (A) (letrec-syntax ((B (syntax-rules () ((_) A) ((_ C D ...) (C (B D ...)))))) (lambda (E) (B E A E))))",
	"(define-syntax A (syntax-rules () ((_ B) (define-syntax B (syntax-rules () ((_ C) (lambda (D) (C D)))))))) (A E) (lambda (D) (E D))",
	"(define-syntax A (syntax-rules () ((_ (B C ...) ...) (lambda (B ...) (B C ...) ...)))) (lambda (F) (A (D F 1) (E) (C F F)))",
	"(define A 1) (set! A (lambda A A)) (begin (define B A) (define A B)) A",
}

// steads are names of which many mean something to the macros of Base.
var steads = strings.Fields("a b x y t n v r c e f loop next if begin lambda let let* letrec define set! quote void or and cond case do else => eq? + car not define-syntax let-syntax a.b |0| |x\\x1;1| |\\xff;|")

// TestRenamed: variables that are renamed make the same, if no two of them become one, and none a name that the program speaks of otherwise.
func TestRenamed(t *testing.T) {
	for _, s := range renamable {
		want := shown(made(t, s))
		spoken := symbolsOf(t, s)
		var free []string
		for _, name := range steads {
			if !slices.Contains(spoken, one(t, name).S) {
				free = append(free, name)
			}
		}
		for from := range free {
			renamed := s
			for i, variable := range []string{"A", "B", "C", "D", "E", "F"} {
				renamed = strings.ReplaceAll(renamed, variable, free[(from+i*5)%len(free)])
			}
			check(t, renamed, want)
		}
	}
}

// symbolsOf are the symbols of a program.
func symbolsOf(t *testing.T, s string) []string {
	t.Helper()
	var out []string
	var tell func(l []api.Datum)
	tell = func(l []api.Datum) {
		for _, d := range l {
			if d.Kind == api.Sym {
				out = append(out, d.S)
			}
			tell(d.Items)
			tell(d.Tail)
		}
	}
	tell(program(t, s))
	return out
}

// TestMadeOften: what is made hangs on the data alone.
func TestMadeOften(t *testing.T) {
	for _, s := range renamable {
		want := shown(made(t, s))
		for range 5 {
			check(t, s, want)
		}
		l := program(t, s)
		text := make([]string, len(l))
		for i, d := range l {
			text[i] = write.Write(d)
		}
		check(t, strings.Join(text, "\n"), want)
	}
}

// TestBoundVariables: whatever a program defines, all of its variables are bound once, and are all that there are.
func TestBoundVariables(t *testing.T) {
	for _, s := range renamable {
		var bound []int
		var tell func(e api.Expr)
		tell = func(e api.Expr) {
			bound = append(bound, e.Vars...)
			if e.Kind == api.ExLet {
				bound = append(bound, e.V)
			}
			for _, kid := range e.Kids {
				tell(kid)
			}
		}
		tell(made(t, s))
		slices.Sort(bound)
		for i, v := range bound {
			if v != i+1 {
				t.Errorf("%s binds %v", s, bound)
				break
			}
		}
	}
}
