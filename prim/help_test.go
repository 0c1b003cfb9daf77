package prim

import (
	"math"
	"math/big"
	"slices"
	"strconv"
	"strings"
	"testing"

	"pavane/api"
)

const (
	top = math.MaxUint32

	// The document's numbers, not the package's: a bound that is moved must be seen.
	mostLimbs = 64
	mostBytes = 1024
	mostName  = 64
)

// numbered are the names of the primitives in the order of the document's section 'Words', takes how many arguments each takes, and does what the chapter says of each: * what Do does and is Pure, + what Do does alone, p what is Pure alone.
const (
	numbered = "+ - * quotient remainder modulo = < cons car cdr set-car! set-cdr! null? pair? integer? symbol? string? boolean? procedure? eq? not string-length string-append string=? symbol->string number->string write display newline read-byte raise call/cc apply box unbox set-box! void"
	takes    = "22222222211221111111211221111001121120"
	does     = "********.....******p***+*++..........p"
)

// arity is how many arguments the primitive of that number takes, by the table above.
func arity(p int) int { return int(takes[p-1] - '0') }

// plains are the numbers of the primitives that Do does, by the table above.
func plains() []int {
	var out []int
	for i, sign := range does {
		if sign == '*' || sign == '+' {
			out = append(out, i+1)
		}
	}
	return out
}

// others are numbers of what is no primitive.
func others() []int {
	return []int{math.MinInt, math.MinInt + 1, math.MinInt32, -38, -2, -1, 0, 39, 40, 100, 257, 1 << 32, 1<<32 + 1, math.MaxInt - 1, math.MaxInt}
}

// num is a number of these limbs, Good or not.
func num(neg bool, limbs ...uint32) api.Datum {
	return api.Datum{Kind: api.Num, I: api.Int{Neg: neg, L: limbs}}
}

// of is the number n, made without any call of the program.
func of(n int64) api.Datum { return ofBig(big.NewInt(n)) }

// ofBig is the one Good datum of n.
func ofBig(n *big.Int) api.Datum {
	out := api.Datum{Kind: api.Num, I: api.Int{Neg: n.Sign() < 0}}
	for rest := new(big.Int).Abs(n); rest.Sign() > 0; rest.Rsh(rest, 32) {
		out.I.L = append(out.I.L, uint32(new(big.Int).And(rest, big.NewInt(top)).Uint64()))
	}
	return out
}

// bigOf reads a number, Good or not.
func bigOf(d api.Datum) *big.Int {
	n := new(big.Int)
	for _, limb := range slices.Backward(d.I.L) {
		n.Lsh(n, 32)
		n.Or(n, big.NewInt(int64(limb)))
	}
	if d.I.Neg {
		n.Neg(n)
	}
	return n
}

// power is 2 to the n, and more.
func power(n uint, more int64) api.Datum {
	x := new(big.Int).Lsh(big.NewInt(1), n)
	return ofBig(x.Add(x, big.NewInt(more)))
}

// negative is the number with the other sign.
func negative(d api.Datum) api.Datum { return ofBig(new(big.Int).Neg(bigOf(d))) }

func sym(s string) api.Datum { return api.Datum{Kind: api.Sym, S: s} }

func str(s string) api.Datum { return api.Datum{Kind: api.Str, S: s} }

func truth(b bool) api.Datum { return api.Datum{Kind: api.Bool, B: b} }

func list(l ...api.Datum) api.Datum { return api.Datum{Kind: api.List, Items: l} }

// dotted is the List d with these Tails.
func dotted(d api.Datum, tails ...api.Datum) api.Datum {
	d.Tail = tails
	return d
}

// every is a datum of that Kind with something in every field.
func every(kind int) api.Datum {
	return api.Datum{Kind: kind, I: api.Int{Neg: true, L: []uint32{5, 0}}, B: true, S: "s",
		Items: []api.Datum{sym("i"), num(false, 0)}, Tail: []api.Datum{sym("t"), sym("u")}}
}

// ring is a List that holds itself.
func ring() api.Datum {
	l := make([]api.Datum, 1)
	l[0] = api.Datum{Kind: api.List, Items: l, Tail: l}
	return l[0]
}

// kinds are data that are Good, one or more of each Kind.
func kinds() []api.Datum {
	return []api.Datum{
		{}, of(0), of(1), of(-7), power(2047, 5), truth(false), truth(true), sym("a"), sym("#f"), str(""), str("a"),
		list(), list(of(1)), list(list()), dotted(list(sym("a")), sym("b")),
	}
}

// goods are more data that are Good.
func goods() []api.Datum {
	return append(kinds(),
		of(2), of(-1), of(7), of(-2), of(10), of(top), of(top+1), of(math.MaxInt64), of(math.MinInt64), power(64, 0), negative(power(64, 1)),
		power(1023, 0), power(1024, 0), negative(power(1024, -1)), power(2047, 0), power(2048, -1), negative(power(2048, -1)), negative(power(2047, 5)),
		sym("b"), sym("A"), sym(" "), sym("\x00\xff"), sym(strings.Repeat("y", mostName)),
		str("b"), str("#f"), str("\xff\n\x00"), str("é"), str(strings.Repeat("x", mostBytes-1)), str(strings.Repeat("z", mostBytes)), str(strings.Repeat("w", mostBytes/2)),
		list(of(1), of(2)), list(truth(false)), list(api.Datum{}), dotted(list(list()), api.Datum{}),
	)
}

// bads are data that are not Good.
func bads() []api.Datum {
	long := slices.Repeat([]uint32{top}, mostLimbs+1)
	out := []api.Datum{
		num(true), num(false, 0), num(true, 0, 0), num(false, 1, 0), num(true, 7, 0, 0), num(false, long...), num(true, long...),
		num(false, append(slices.Clone(long), long...)...), num(false, append(make([]uint32, mostLimbs), 1)...), num(true, append(slices.Clone(long[:mostLimbs]), 0)...),
		sym(""), sym(strings.Repeat("x", mostBytes+1)), str(strings.Repeat("x", mostBytes+1)), str(strings.Repeat("x", 3*mostBytes)),
		dotted(list(), sym("t")), dotted(list(), list(of(1))), dotted(list(of(1)), list()), dotted(list(of(1)), of(2), of(3)), list(num(false, 0)),
		{Kind: -1}, {Kind: 6}, {Kind: math.MinInt}, {Kind: math.MaxInt}, ring(),
		{Kind: api.Num, Items: ring().Items}, {Kind: api.Bool, Tail: ring().Items}, {Kind: api.Sym, S: "a", Items: ring().Items},
		{Kind: api.Bool, S: "#f"}, {Kind: api.Nothing, B: true}, {Kind: api.Nothing, S: "x"}, {Kind: api.Sym, S: "a", B: true}, {Kind: api.Str, S: "a", I: of(5).I},
	}
	for kind := -1; kind <= 6; kind++ {
		out = append(out, every(kind))
	}
	return out
}

// exactly: a and b have the same in every field; nil is an empty list.
func exactly(a, b api.Datum) bool {
	return a.Kind == b.Kind && a.I.Neg == b.I.Neg && slices.Equal(a.I.L, b.I.L) && a.B == b.B && a.S == b.S &&
		slices.EqualFunc(a.Items, b.Items, exactly) && slices.EqualFunc(a.Tail, b.Tail, exactly)
}

// brief is d as a text that is not too long; what stands in lists is left out, as they may hold themselves.
func brief(d api.Datum) string {
	s := d.S
	if len(s) > 20 {
		s = s[:20] + ".." + strconv.Itoa(len(d.S))
	}
	n := bigOf(d).Text(16)
	if len(n) > 20 {
		n = n[:20] + ".. of " + strconv.Itoa(len(d.I.L)) + " limbs"
	}
	return "{Kind " + strconv.Itoa(d.Kind) + ", I " + n + ", B " + strconv.FormatBool(d.B) + ", S " + strconv.Quote(s) +
		", " + strconv.Itoa(len(d.Items)) + " Items, " + strconv.Itoa(len(d.Tail)) + " Tails}"
}

func briefs(l []api.Datum) string {
	var out []string
	for _, d := range l {
		out = append(out, brief(d))
	}
	return strings.Join(out, " ")
}

// check holds what Do tells against what it should.
func check(t *testing.T, p int, want api.Datum, l ...api.Datum) {
	t.Helper()
	got, err := Do(p, l)
	if err != api.OK || !exactly(got, want) {
		t.Errorf("Do(%d, %s): %s, %v, want %s", p, briefs(l), brief(got), err, brief(want))
	}
}

// checkWrong holds the error that Do tells against the one that it should; all else is zero.
func checkWrong(t *testing.T, p int, want api.Errno, l ...api.Datum) {
	t.Helper()
	got, err := Do(p, l)
	if err != want || !exactly(got, api.Datum{}) {
		t.Errorf("Do(%d, %s): %s, %v, want %v", p, briefs(l), brief(got), err, want)
	}
}
