package expand

import (
	"slices"
	"strings"
	"testing"

	"pavane/api"
)

// used are programs whose data come to the expression in each of the ways that there are.
var used = append([]string{
	"123456789012345678901234567890 \"a\" #t (quote (a (b . c) 123456789012345678901234567890 \"d\" ()))",
	"(define-syntax m (syntax-rules (k) ((_ k a ...) '((a 99999999999) ... (a ...) (x . y) 99999999999)) ((_ a) (begin a a '(a a))))) (m k 1 12345678901 (2 (3))) (m 12345678901) (m k)",
	"(define x '(1 2 . 12345678901)) (define (f a . b) (if a b)) (lambda (a b . c) (set! a 1) car (+ 1 2 3) (+) (*) (- 1))",
	"(let-syntax ((m (syntax-rules () ((_ (a . b) ...) (lambda (a ... . c) '(b ...)))))) (m (x 1 2) (y . 12345678901)))",
	"(case (car '(1)) ((1 (2 3) a) (f)) (else 5)) (define (f . x) (let* ((y x)) (cond (y => car) (else (do ((i 0 (+ i 1))) ((= i 3))))))) (begin) (begin 1 (begin 2 (define g f)))",
}, renamable...)

// wrongUsed are programs that come to an error behind much else.
var wrongUsed = []string{
	"(define-syntax m (syntax-rules () ((_ a ...) '((a 1) ...)))) (m 1 (2 . 3) 12345678901) (lambda (x) '(1 2) (zzz))",
	"'(1 2) (let ((x '(1 2 . 3)) (y 12345678901)) (x y) (if))",
	"(define-syntax m (syntax-rules () ((_ . a) (m 12345678901 . a)))) (m (1) . (2))",
}

const spoilt = 0xdecade

var markItem = api.Datum{Kind: api.Sym, S: "mark"}

// roomy is a copy of l with marks in the room behind all its lists.
func roomy(l []api.Datum) []api.Datum {
	out := slices.Clone(l)
	for i := range out {
		out[i].I.L = behind(out[i].I.L, spoilt)
		out[i].Items, out[i].Tail = roomy(out[i].Items), roomy(out[i].Tail)
	}
	return behind(out, markItem)
}

// behind is a copy of l with room behind its end, in which marks stand.
func behind[T any](l []T, mark T) []T {
	out := append(slices.Clone(l), mark, mark, mark)
	return out[:len(l):len(out)]
}

// isAsItWas: l is as want is, and in the room behind all its lists the marks are still there.
func isAsItWas(l, want []api.Datum) bool {
	if len(l) != len(want) {
		return false
	}
	for i, d := range l {
		w := want[i]
		same := d.Kind == w.Kind && d.I.Neg == w.I.Neg && slices.Equal(d.I.L, w.I.L) && d.B == w.B && d.S == w.S
		for _, limb := range d.I.L[len(d.I.L):cap(d.I.L)] {
			same = same && limb == spoilt
		}
		if !same || !isAsItWas(d.Items, w.Items) || !isAsItWas(d.Tail, w.Tail) {
			return false
		}
	}
	for _, x := range l[len(l):cap(l)] {
		if x.Kind != api.Sym || x.S != "mark" || len(x.Items) > 0 {
			return false
		}
	}
	return true
}

func TestWhatIsGivenStaysAsItIs(t *testing.T) {
	for i, s := range slices.Concat(used, wrongUsed) {
		l := roomy(program(t, s))
		if _, _, err := Program(l); (err == api.OK) != (i < len(used)) {
			t.Errorf("Program of %s: %v", s, err)
		}
		if !isAsItWas(l, program(t, s)) {
			t.Errorf("Program of %s has changed it", s)
		}
	}
}

// memory counts the places that lists stand in, the room behind them too.
type memory struct {
	data  map[*api.Datum]int
	limbs map[*uint32]int
	vars  map[*int]int
	kids  map[*api.Expr]int
}

func newMemory() memory {
	return memory{map[*api.Datum]int{}, map[*uint32]int{}, map[*int]int{}, map[*api.Expr]int{}}
}

func (m memory) addData(l []api.Datum) {
	for _, d := range l {
		m.addDatum(d)
	}
	addRoom(m.data, l)
}

func (m memory) addDatum(d api.Datum) {
	m.addData(d.Items)
	m.addData(d.Tail)
	addRoom(m.limbs, d.I.L)
}

func (m memory) addExpr(e api.Expr) {
	m.addDatum(e.D)
	addRoom(m.vars, e.Vars)
	for _, kid := range e.Kids {
		m.addExpr(kid)
	}
	addRoom(m.kids, e.Kids)
}

// addRoom counts the places of a list, and of the room behind it.
func addRoom[T any](places map[*T]int, l []T) {
	l = l[:cap(l)]
	for i := range l {
		places[&l[i]]++
	}
}

// isShared: some place is in two lists.
func (m memory) isShared() bool {
	return isTwice(m.data) || isTwice(m.limbs) || isTwice(m.vars) || isTwice(m.kids)
}

func isTwice[T any](places map[*T]int) bool {
	for _, times := range places {
		if times > 1 {
			return true
		}
	}
	return false
}

func TestWhatIsMadeIsNewMemory(t *testing.T) {
	for _, s := range used {
		l := roomy(program(t, s))
		m := newMemory()
		m.addData(l)
		for range 3 {
			e, _, _ := Program(l)
			m.addExpr(e)
		}
		if m.isShared() {
			t.Errorf("Program of %s shares memory", s)
		}
	}
}

// spoil changes all that is in lists.
func spoil(l []api.Datum) {
	for i := range l {
		spoil(l[i].Items)
		spoil(l[i].Tail)
		for j := range l[i].I.L {
			l[i].I.L[j] = spoilt
		}
		l[i] = markItem
	}
}

func TestWhatIsGivenMayChangeBehindTheCall(t *testing.T) {
	for _, s := range used {
		l := program(t, s)
		e, _, _ := Program(l)
		want := shown(e)
		spoil(l)
		if got := shown(e); got != want {
			t.Errorf("Program of %s has changed from %s to %s", s, want, got)
		}
		check(t, s, want)
	}
}

func TestManyAtOnce(t *testing.T) {
	done := make(chan string)
	for range 8 {
		go func() {
			var all []string
			for _, s := range used {
				l := program(t, s)
				e, _, _ := Program(l)
				all = append(all, shown(e))
			}
			done <- strings.Join(all, "\n")
		}()
	}
	first := <-done
	for range 7 {
		if got := <-done; got != first {
			t.Errorf("%s, want %s", got, first)
		}
	}
}
