package expand

import (
	"strings"

	"pavane/reader"
)

// base is the text of the macros that all programs have.
const base = `(define-syntax let (syntax-rules () ((_ ((n v) ...) b c ...) ((lambda (n ...) b c ...) v ...)) ((_ t ((n v) ...) b c ...) ((letrec ((t (lambda (n ...) b c ...))) t) v ...))))
(define-syntax let* (syntax-rules () ((_ () b c ...) (let () b c ...)) ((_ ((n v) r ...) b c ...) (let ((n v)) (let* (r ...) b c ...)))))
(define-syntax letrec (syntax-rules () ((_ ((n v) ...) b c ...) ((lambda () (define n v) ... (let () b c ...))))))
(define-syntax letrec* (syntax-rules () ((_ ((n v) ...) b c ...) ((lambda () (define n v) ... (let () b c ...))))))
(define-syntax and (syntax-rules () ((_) #t) ((_ a) a) ((_ a b ...) (if a (and b ...) #f))))
(define-syntax or (syntax-rules () ((_) #f) ((_ a) a) ((_ a b ...) (let ((x a)) (if x x (or b ...))))))
(define-syntax when (syntax-rules () ((_ a b c ...) (if a (begin b c ...)))))
(define-syntax unless (syntax-rules () ((_ a b c ...) (if a (void) (begin b c ...)))))
(define-syntax cond (syntax-rules (else =>) ((_ (else a b ...)) (begin a b ...)) ((_ (a => f)) (let ((x a)) (if x (f x)))) ((_ (a => f) c d ...) (let ((x a)) (if x (f x) (cond c d ...)))) ((_ (a)) a) ((_ (a) c d ...) (or a (cond c d ...))) ((_ (a b e ...)) (if a (begin b e ...))) ((_ (a b e ...) c d ...) (if a (begin b e ...) (cond c d ...)))))
(define-syntax case (syntax-rules (else) ((_ (a ...) c ...) (let ((x (a ...))) (case x c ...))) ((_ a (else b e ...)) (begin b e ...)) ((_ a ((k ...) b e ...)) (if (or (eq? a (quote k)) ...) (begin b e ...))) ((_ a ((k ...) b e ...) c d ...) (if (or (eq? a (quote k)) ...) (begin b e ...) (case a c d ...)))))
(define-syntax do (syntax-rules () ((_ "next" x) x) ((_ "next" x y) y) ((_ ((n v s ...) ...) (t e ...) c ...) (letrec ((loop (lambda (n ...) (if t (begin (void) e ...) (begin c ... (loop (do "next" n s ...) ...)))))) (loop v ...)))))
`

// definition is what each of them begins with, ahead of its name.
const definition = "(define-syntax "

// Base: the definitions of the macros that all programs have.
func Base() string { return base }

// baseMacro defines the macro of that name in the outermost scope; false if it is not one of base. The others are not read: few programs use many of them.
func (x *expander) baseMacro(name string) (meaning, bool) {
	at := strings.Index(base, definition+name+" ")
	if at < 0 {
		return meaning{}, false
	}
	d, _, _ := reader.Read(base, at)
	if d.Items[1].S != name {
		return meaning{}, false
	}
	m := meaning{kind: isMacro, macro: newMacro(d.Items[2], x.outermost)}
	x.outermost.names[name] = m
	return m, true
}
