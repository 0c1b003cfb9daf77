package reader

import (
	"math"
	"math/big"
	"strings"
	"testing"

	"pavane/api"
)

// reads are texts of one datum, read from their begin, and how many bytes of them are behind it.
func reads() []struct {
	s      string
	want   api.Datum
	behind int
} {
	a, b, c := sym("a"), sym("b"), sym("c")
	return []struct {
		s      string
		want   api.Datum
		behind int
	}{
		{"a", a, 0}, {"a ", a, 1}, {" \t\n\r\fa\f", a, 1}, {"a b", a, 2}, {"a)", a, 1}, {"a;b", a, 2}, {"#|b|#a #||#", a, 5}, {"#;b a", a, 0}, {"; b\n a", a, 0},
		{"()", list(), 0}, {"[]", list(), 0}, {"( )", list(), 0}, {"(;a\n)", list(), 0}, {"(#;a)", list(), 0}, {"(#|a|#)", list(), 0},
		{"(a)", list(a), 0}, {"[a]", list(a), 0}, {"(a b c)", list(a, b, c), 0}, {"[a b c]d", list(a, b, c), 1}, {"( a\tb\n)", list(a, b), 0},
		{"(a(b)c)", list(a, list(b), c), 0}, {"([a](b))", list(list(a), list(b)), 0}, {"[(a)[]()]", list(list(a), list(), list()), 0},
		{"(a #;b c)", list(a, c), 0}, {"(a #;b)", list(a), 0}, {"(a #;(b) #|c|#)", list(a), 0}, {`(a"b"|c|'a)`, list(a, str("b"), c, list(sym("quote"), a)), 0},
		{"(a . b)", dotted(list(a), b), 0}, {"[a . b]", dotted(list(a), b), 0}, {"(a b . c)", dotted(list(a, b), c), 0}, {"((a . b) . c)", dotted(list(dotted(list(a), b)), c), 0},
		{"(a .;b\n c)", dotted(list(a), c), 0}, {"(a . #;b c)", dotted(list(a), c), 0}, {"(a . b #;c)", dotted(list(a), b), 0}, {"(a . b #|c|# ;)\n )", dotted(list(a), b), 0}, {"(a #;b . c)", dotted(list(a), c), 0},
		{`(a ."b")`, dotted(list(a), str("b")), 0}, {"(a .|b|)", dotted(list(a), b), 0}, {"(a . 5)", dotted(list(a), num(false, 5)), 0}, {"(a . #t)", dotted(list(a), boolean(true)), 0},
		{"(a . ())", list(a), 0}, {"(a . (b))", list(a, b), 0}, {"(a .(b))", list(a, b), 0}, {"(a .[b c])", list(a, b, c), 0}, {"(a . (b . c))", dotted(list(a, b), c), 0}, {"(a . (b . (c . ())))", list(a, b, c), 0},
		{"(a . 'b)", list(a, sym("quote"), b), 0}, {"((a . (b)) . (c))", list(list(a, b), c), 0}, {"'(a . (b))", list(sym("quote"), list(a, b)), 0},
		{"(a .b)", list(a, sym(".b")), 0}, {"(a ..)", list(a, sym("..")), 0}, {"(a ... b)", list(a, sym("..."), b), 0}, {"(a |.| b)", list(a, sym("."), b), 0}, {"(|.| . |.|)", dotted(list(sym(".")), sym(".")), 0},
		{"'a", list(sym("quote"), a), 0}, {"`a", list(sym("quasiquote"), a), 0}, {",a", list(sym("unquote"), a), 0}, {",@a", list(sym("unquote-splicing"), a), 0}, {"'a b", list(sym("quote"), a), 2},
		{"' a", list(sym("quote"), a), 0}, {"'#;b a", list(sym("quote"), a), 0}, {"'#|b|#;\n a", list(sym("quote"), a), 0}, {", @a", list(sym("unquote"), sym("@a")), 0}, {",@@a", list(sym("unquote-splicing"), sym("@a")), 0},
		{"''a", list(sym("quote"), list(sym("quote"), a)), 0}, {"'()", list(sym("quote"), list()), 0}, {"`(a ,b ,@c)", list(sym("quasiquote"), list(a, list(sym("unquote"), b), list(sym("unquote-splicing"), c))), 0},
		{"('a . 'b)", list(list(sym("quote"), a), sym("quote"), b), 0}, {"(quote a)", list(sym("quote"), a), 0}, {"'\"a\"b", list(sym("quote"), str("a")), 1},
		{`""`, str(""), 0}, {`"a"`, str("a"), 0}, {`"a""b"`, str("a"), 3}, {`"a b;c(#|"`, str("a b;c(#|"), 0}, {"\"\n\t\r\x00\xff\"", str("\n\t\r\x00\xff"), 0}, {`"é"`, str("é"), 0}, {`"a"b`, str("a"), 1},
		{"|a|", a, 0}, {"|a b|", sym("a b"), 0}, {"|A|", sym("A"), 0}, {"|5|", sym("5"), 0}, {"|#t|", sym("#t"), 0}, {`|"|`, sym(`"`), 0}, {"|(a)|b", sym("(a)"), 1}, {"|\n\x00\xff|", sym("\n\x00\xff"), 0}, {"|a||b|", a, 3},
		{"#t", boolean(true), 0}, {"#true", boolean(true), 0}, {"#f", boolean(false), 0}, {"#false", boolean(false), 0}, {"#t)", boolean(true), 1}, {"#f(", boolean(false), 1}, {"#t|a|", boolean(true), 3}, {"#true;", boolean(true), 1}, {"(#t #;a #f)", list(boolean(true), boolean(false)), 0},
		{"0", num(false), 0}, {"-0", num(false), 0}, {"+0", num(false), 0}, {"5", num(false, 5), 0}, {"+5", num(false, 5), 0}, {"-5", num(true, 5), 0}, {"007", num(false, 7), 0}, {"4294967296", num(false, 0, 1), 0}, {"-18446744073709551616)", num(true, 0, 0, 1), 1}, {"5'", num(false, 5), 1},
		{"+", sym("+"), 0}, {"-", sym("-"), 0}, {"..", sym(".."), 0}, {"...", sym("..."), 0}, {".a", sym(".a"), 0}, {"+a", sym("+a"), 0}, {"-a1", sym("-a1"), 0}, {"a.b", sym("a.b"), 0}, {"a1", sym("a1"), 0}, {"@", sym("@"), 0}, {"a@b", sym("a@b"), 0},
		{"ABC", sym("ABC"), 0}, {"aBc", sym("aBc"), 0}, {"Z", sym("Z"), 0}, {"set-car!", sym("set-car!"), 0}, {"!$%&*/:<=>?^_~+-.@", sym("!$%&*/:<=>?^_~+-.@"), 0}, {"a,b", a, 2}, {"a`b", a, 2}, {"a'b", a, 2}, {"a\"b\"", a, 3}, {"a|b|", a, 3}, {"a[b]", a, 3}, {"a]", a, 1}, {"a(", a, 1},
	}
}

func checkRead(t *testing.T, s string, at int, want api.Datum, end int) {
	t.Helper()
	d, n, err := Read(s, at)
	if err != api.OK || n != end || !exactly(d, want) {
		t.Errorf("Read(%q, %d): %s, %d, %v, want %s, %d", shown(s), at, told(d), n, err, told(want), end)
	}
}

func checkWrong(t *testing.T, s string, at int, want api.Errno, place int) {
	t.Helper()
	d, n, err := Read(s, at)
	if err != want || n != place || !isZero(d) {
		t.Errorf("Read(%q, %d): %s, %d, %v, want %v at %d", shown(s), at, told(d), n, err, want, place)
	}
}

func TestRead(t *testing.T) {
	for _, x := range reads() {
		checkRead(t, x.s, 0, x.want, len(x.s)-x.behind)
		// A place that is not the begin, and with it all others, are told from the text's begin on.
		checkRead(t, "(x "+x.s, 2, x.want, 3+len(x.s)-x.behind)
		checkRead(t, ")"+x.s, 1, x.want, 1+len(x.s)-x.behind)
	}
}

func TestReadFromAPlace(t *testing.T) {
	s := "a (b c) |d e|"
	for _, x := range []struct {
		at   int
		want api.Datum
		end  int
	}{
		{0, sym("a"), 1}, {1, list(sym("b"), sym("c")), 7}, {2, list(sym("b"), sym("c")), 7}, {3, sym("b"), 4}, {4, sym("c"), 6}, {5, sym("c"), 6},
		{7, sym("d e"), 13}, {8, sym("d e"), 13}, {9, sym("d"), 10}, {10, sym("e"), 12}, {11, sym("e"), 12},
	} {
		checkRead(t, s, x.at, x.want, x.end)
	}
	checkWrong(t, s, 6, api.ErrRead, 6)
	checkWrong(t, s, 12, api.ErrRead, 13)
	checkWrong(t, s, 13, api.ErrRead, 13)
}

// wrongs are texts that are read from their begin, and the place at which ErrRead is.
func wrongs() []struct {
	s     string
	place int
} {
	return []struct {
		s     string
		place int
	}{
		// Something lacks at the end.
		{"", 0}, {" ", 1}, {" \t\n\r\f", 5}, {"; a", 3}, {";\n", 2}, {"#|a|#", 5}, {"#;a", 3}, {"#;", 2}, {"#; ", 3}, {"#;#;a", 5}, {"#; ;a", 5}, {"#;#|a|#", 7},
		{"(", 1}, {"[", 1}, {"(a", 2}, {"(a ", 3}, {"[a b", 4}, {"((a)", 4}, {"(a #;b", 6}, {"(a ;)", 5}, {"(a #|)|#", 8}, {"(a .", 4}, {"(a . ", 5}, {"(a . b", 6}, {"(a . b ", 7}, {"(a . b ;)", 9}, {"(a . #;b", 8}, {"(#;", 3},
		{"'", 1}, {"`", 1}, {",", 1}, {",@", 2}, {"' ", 2}, {"('", 2}, {"'#;a", 4}, {"'';", 3}, {",@ ", 3},
		{`"`, 1}, {`"a`, 2}, {`"a\"`, 4}, {`"a\\`, 4}, {`"a|`, 3}, {"\"a\n", 3}, {`("a)`, 4}, {`"\n`, 3}, {`"\x41;`, 6}, {"\"\\\n", 3}, {"\"\\ \n\t ", 6}, {"|", 1}, {"|a", 2}, {`|a\|`, 4}, {`|a"`, 3}, {"(|a)", 4}, {"|\\\n ", 4}, {`"` + strings.Repeat("a", longestString+1), longestString + 2}, {"|" + strings.Repeat("a", longestName+1), longestName + 2},
		// An end that ends no such list.
		{")", 0}, {"]", 0}, {" )", 1}, {"(]", 1}, {"[)", 1}, {"(a]", 2}, {"[a )", 3}, {"((a]", 3}, {"([a)]", 3}, {"(a [b) c]", 5}, {"')", 1}, {"('a ')", 5}, {"(`]", 2}, {"(,@ )", 4}, {"#;)", 2}, {"(a #;)", 5}, {"(a #; )", 6}, {"(#;#;a)", 6}, {"(a . b]", 6}, {"[a . b)", 6}, {"(a . b #;c ]", 11},
		{"(a .)", 4}, {"(a . )", 5}, {"(a . ]", 5}, {"(a . #;b)", 8}, {"(a . ;b\n)", 8}, {"(a . #|b|#)", 10},
		// A dot that may not be.
		{".", 0}, {" . a", 1}, {"(.", 1}, {"(.)", 1}, {"( . a)", 2}, {"(. a)", 1}, {"[.]", 1}, {"(#;a . b)", 5}, {"(;a\n . b)", 5}, {"(#|a|# . b)", 7}, {"'.", 1}, {"' . a", 2}, {"#; . a", 3}, {"(a '. b)", 4}, {"(a #;. b)", 5}, {"((. a) . b)", 2}, {"(a . . b)", 5}, {"(a . .)", 5}, {"(a . b .)", 7}, {"(a . b . c)", 7}, {"(a . b . ", 7},
		// Something stands behind the datum behind a dot.
		{"(a . b c)", 7}, {"(a . b c", 7}, {"(a . b  (c))", 8}, {"(a . b[)", 6}, {"(a . b 'c)", 7}, {"(a . (b) c)", 9}, {`(a . b"c")`, 6}, {"(a . b|c|)", 6}, {"(a . b #;c d)", 11}, {"(a . b #foo)", 7}, {"(a . b \"", 7}, {"(a . b 5)", 7},
		// Atoms that are none.
		{"#", 0}, {" #", 1}, {"#tr", 0}, {"#tru", 0}, {"#truee", 0}, {"#fa", 0}, {"#falsey", 0}, {"#T", 0}, {"#F", 0}, {"#True", 0}, {"#tf", 0}, {"#t#f", 0}, {"#x41", 0}, {"#(a)", 0}, {"#\"a\"", 0}, {"# t", 0}, {"#v", 0}, {"#\\a", 0}, {"#'a", 0}, {"#[", 0},
		{"1a", 0}, {"1+", 0}, {"+1a", 0}, {"-1-", 0}, {".5", 0}, {"1.5", 0}, {"9.", 0}, {"1/2", 0}, {"0x1", 0}, {"5#", 0}, {"a#", 0}, {"a#t", 0}, {"(a b#;c)", 3}, {"a#|b|#", 0}, {"(a .# b)", 3},
		{"{", 0}, {"a{b}", 0}, {"}", 0}, {`\`, 0}, {`a\b`, 0}, {`\a`, 0}, {"\x00", 0}, {"a\x00", 0}, {"a\vb", 0}, {"\v", 0}, {"é", 0}, {"aé", 0}, {"\x80", 0}, {"\xff a", 0}, {"a\x7f", 0}, {"\u00a0a", 0}, {"(a \u2028)", 3}, {"'é", 1}, {"#;é a", 2},
		// A backslash that stands for nothing.
		{`"\q"`, 1}, {`"ab\a"`, 3}, {`"\N"`, 1}, {`"\X41;"`, 1}, {`"\|"`, 1}, {`"\;"`, 1}, {`"\0"`, 1}, {`"\é"`, 1}, {"\"\\\r\n\"", 1}, {"\"\\\f\n\"", 1}, {`"\ "`, 1}, {"\"\\ \t \"", 1}, {"\"a\\ b\n\"", 2}, {`"\t\n\q"`, 5}, {`("a" "\q")`, 6},
		{`|\q|`, 1}, {`|\"|`, 1}, {`|a\ |`, 2}, {`|\x|`, 1}, {`|\X41;|`, 1}, {`|\;|`, 1},
		{`"\x"`, 1}, {`"\x;"`, 1}, {`"\xg;"`, 1}, {`"\x4"`, 1}, {`"\x41"`, 1}, {`"\x41 ;"`, 1}, {`"\x411;"`, 1}, {`"\x041;"`, 1}, {`"\x4g;"`, 1}, {`"\x4é;"`, 1}, {`"\xé;"`, 1}, {`"\x-1;"`, 1}, {`"\x+1;"`, 1}, {`"\x4_1;"`, 1}, {`"\x 41;"`, 1}, {"\"\\x4\xff;\"", 1}, {`"\x@;"`, 1}, {"\"\\x`;\"", 1}, {`"\xG;"`, 1}, {`"\x:;"`, 1}, {`"\x/;"`, 1},
		{`"\`, 1}, {`"a\`, 2}, {`|\`, 1}, {`|ab\`, 3}, {`"\ `, 1}, {"\"\\ \t", 1}, {`"\x`, 1}, {`"\x4`, 1}, {`"\x41`, 1}, {`|a\x41`, 2}, {`("a\`, 3}, {`"\q`, 1}, {`"\"\`, 3}, {`"\\\`, 3},
		// Symbols without a byte.
		{"||", 0}, {" || ", 1}, {"(a ||)", 3}, {"|\\\n|", 0}, {"(a |\\ \n \t|)", 3},
		// Remarks without an end.
		{"#|", 0}, {" #|a", 1}, {"#| #| |#", 0}, {"#|#|#", 0}, {"#|#", 0}, {"(a #|b)", 3}, {"#|a|# #|b", 6}, {"'#|", 1}, {"#;#|a", 2}, {"(a . b #|)", 7}, {"(a . #|b)", 5}, {"#|a| #", 0},
		// The first of several counts.
		{"(#x ]", 1}, {"(] #x", 1}, {`("\q" #x)`, 2}, {`(#x "\q")`, 1}, {"#;#x )", 2}, {"#;(a] (", 4}, {"(a . b c .", 7}, {"|| ]", 0}, {`"` + strings.Repeat("a", longestString+1) + `\q"`, longestString + 2},
	}
}

func TestReadWrong(t *testing.T) {
	for _, x := range wrongs() {
		checkWrong(t, x.s, 0, api.ErrRead, x.place)
		checkWrong(t, "a"+x.s, 1, api.ErrRead, x.place+1)
		checkWrong(t, "]#| "+x.s, 4, api.ErrRead, x.place+4)
	}
}

// What is wrong inside is wrong at the same place, whatever stands around it.
func TestWrongInside(t *testing.T) {
	for _, x := range wrongs() {
		for _, ahead := range []string{"'", ",@", "#;", "' #;'", "`;a\n", "#|a|#"} {
			checkWrong(t, ahead+x.s, 0, api.ErrRead, len(ahead)+x.place)
		}
	}
}

func TestReadArguments(t *testing.T) {
	for _, s := range []string{"", "a", "(a b)"} {
		for _, at := range []int{-1, len(s) + 1, math.MinInt, math.MaxInt, -len(s) - 1} {
			checkWrong(t, s, at, api.ErrArg, 0)
		}
		checkWrong(t, s, len(s), api.ErrRead, len(s))
	}
	longest := strings.Repeat(" ", longestText-1) + "a"
	checkRead(t, longest, 0, sym("a"), longestText)
	checkRead(t, longest, longestText-1, sym("a"), longestText)
	checkWrong(t, longest, longestText, api.ErrRead, longestText)
	checkWrong(t, longest, longestText+1, api.ErrArg, 0)
	// A text that is too long is so ahead of all else.
	for _, s := range []string{longest + " ", "a" + longest, strings.Repeat("(", longestText+1), strings.Repeat(" ", 100*longestText)} {
		for _, at := range []int{0, 1, longestText, len(s), -1, len(s) + 1, math.MinInt, math.MaxInt} {
			checkWrong(t, s, at, api.ErrLong, 0)
		}
	}
}

func TestEscapes(t *testing.T) {
	for _, x := range []struct{ s, want string }{
		{`\n`, "\n"}, {`\t`, "\t"}, {`\r`, "\r"}, {`\\`, `\`}, {`\\n`, `\n`}, {`a\nb\tc`, "a\nb\tc"}, {`\\\\`, `\\`},
		{`\x0;`, "\x00"}, {`\x00;`, "\x00"}, {`\xa;`, "\n"}, {`\xA;`, "\n"}, {`\x0a;`, "\n"}, {`\x41;`, "A"}, {`\xff;`, "\xff"}, {`\xFF;`, "\xff"}, {`\xfF;`, "\xff"}, {`\x7c;`, "|"}, {`\x22;`, `"`}, {`\x5c;n`, `\n`}, {`\x41;1`, "A1"}, {`\x41;;`, "A;"}, {`\xc3;\xa9;`, "é"}, {`\x9;\xe;\x1f;`, "\t\x0e\x1f"},
		{"a\\\nb", "ab"}, {"a\\\n  b", "ab"}, {"a\\  \nb", "ab"}, {"a\\ \t \n \t b", "ab"}, {"a \\\n b", "a b"}, {"a\\\n\nb", "a\nb"}, {"a\\\n \n b", "a\n b"}, {"a\\\n\\\nb", "ab"}, {"a\\\n \rb", "a\rb"}, {"a\\\n\fb", "a\fb"}, {"a\\\n\\tb", "a\tb"},
		{"a\nb", "a\nb"}, {"a;b", "a;b"}, {"#a", "#a"}, {"x41;", "x41;"}, {"'`,@([{", "'`,@([{"}, {"é\x80\x00", "é\x80\x00"},
	} {
		checkRead(t, `"`+x.s+`"`, 0, str(x.want), len(x.s)+2)
		checkRead(t, "|"+x.s+"|", 0, sym(x.want), len(x.s)+2)
	}
	checkRead(t, `"\""`, 0, str(`"`), 4)
	checkRead(t, `"a\"b|" c`, 0, str(`a"b|`), 7)
	checkRead(t, `|\||`, 0, sym("|"), 4)
	checkRead(t, `|a\|b"| c`, 0, sym(`a|b"`), 7)
	checkRead(t, "\"\\\n\"", 0, str(""), 4)
	checkRead(t, "\"\\ \n\t\"", 0, str(""), 6)
}

func TestEveryByteByItself(t *testing.T) {
	const plains = "abcdefghijklmnopqrstuvwxyzABCDEFGHIJKLMNOPQRSTUVWXYZ0123456789!$%&*/:<=>?^_~+-.@"
	const ends = " \t\n\r\f()[]\";'`,|"
	for c := range 256 {
		one := string([]byte{byte(c)})
		s := "a" + one + "b"
		switch {
		case strings.Contains(ends, one):
			checkRead(t, s, 0, sym("a"), 1)
		case strings.Contains(plains, one):
			checkRead(t, s, 0, sym(s), 3)
		default:
			checkWrong(t, s, 0, api.ErrRead, 0)
		}
		if one != `"` && one != `\` {
			checkRead(t, `"`+one+`"`, 0, str(one), 3)
		}
		if one != "|" && one != `\` {
			checkRead(t, "|"+one+"|", 0, sym(one), 3)
		}
	}
}

func TestNumbers(t *testing.T) {
	top := new(big.Int).Lsh(big.NewInt(1), 32*mostLimbs)
	most := new(big.Int).Sub(top, big.NewInt(1))
	limbs := make([]uint32, mostLimbs)
	for i := range limbs {
		limbs[i] = math.MaxUint32
	}
	for _, sign := range []string{"", "+", "-"} {
		s := sign + most.String()
		checkRead(t, s, 0, num(sign == "-", limbs...), len(s))
		s = sign + strings.Repeat("0", 300) + most.String()
		checkRead(t, " "+s+")", 0, num(sign == "-", limbs...), 1+len(s))
		checkWrong(t, sign+top.String(), 0, api.ErrRead, 0)
		checkWrong(t, "(a "+sign+top.String()+" b)", 0, api.ErrRead, 3)
		s = sign + strings.Repeat("0", 999) + "7"
		checkRead(t, s, 0, num(sign == "-", 7), len(s))
		checkWrong(t, "a "+sign+strings.Repeat("0", 1000)+"7", 1, api.ErrRead, 2)
		checkWrong(t, sign+strings.Repeat("9", longestText-1), 0, api.ErrRead, 0)
	}
	// A number that is too long is no symbol, either.
	checkWrong(t, "(+"+top.String()+")", 0, api.ErrRead, 1)
}

func TestLongNames(t *testing.T) {
	name, longer := strings.Repeat("x", longestName), strings.Repeat("x", longestName+1)
	checkRead(t, name, 0, sym(name), longestName)
	checkRead(t, "|"+name+"|", 0, sym(name), longestName+2)
	checkRead(t, "("+strings.Repeat(".", longestName)+")", 0, list(sym(strings.Repeat(".", longestName))), longestName+2)
	checkWrong(t, "(a "+longer+")", 0, api.ErrRead, 3)
	checkWrong(t, " |"+longer+"|", 0, api.ErrRead, 1)
	checkWrong(t, strings.Repeat("x", longestText), 0, api.ErrRead, 0)
	// Bytes that stand for one, or for none, count as such.
	s := "|" + strings.Repeat(`\x00;`, longestName) + "\\\n |"
	checkRead(t, s, 0, sym(strings.Repeat("\x00", longestName)), len(s))
	checkWrong(t, "("+strings.Repeat(" ", 5)+"|"+strings.Repeat(`\|`, longestName+1)+"|)", 0, api.ErrRead, 6)
}

func TestLongStrings(t *testing.T) {
	text := strings.Repeat("x", longestString)
	checkRead(t, `"`+text+`"`, 0, str(text), longestString+2)
	checkWrong(t, `(a "x`+text+`" b)`, 0, api.ErrRead, 3)
	checkWrong(t, `"`+strings.Repeat("x", longestText-2)+`"`, 0, api.ErrRead, 0)
	s := `"` + strings.Repeat(`\"`, longestString) + "\\\n" + `"`
	checkRead(t, s, 0, str(strings.Repeat(`"`, longestString)), len(s))
	checkWrong(t, `  "`+strings.Repeat(`\x41;`, longestString+1)+`"`, 0, api.ErrRead, 2)
	s = `"` + strings.Repeat("é", longestString/2) + `"`
	checkRead(t, s, 0, str(strings.Repeat("é", longestString/2)), len(s))
	checkWrong(t, `"a`+strings.Repeat("é", longestString/2)+`"`, 0, api.ErrRead, 0)
}
