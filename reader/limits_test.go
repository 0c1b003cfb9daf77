package reader

import (
	"slices"
	"strings"
	"testing"

	"pavane/api"
)

func TestDeepLists(t *testing.T) {
	for _, x := range []struct{ open, end string }{{"(", ")"}, {"[", "]"}, {"(#;a ", " #;b)"}, {" (", ") "}} {
		s := nested(deepest, x.open, "", x.end)
		checkRead(t, s, 0, chain(deepest-1, list()), len(strings.TrimRight(s, " ")))
		s = nested(deepest-1, x.open, "x", x.end)
		checkRead(t, s, 0, chain(deepest-1, sym("x")), len(strings.TrimRight(s, " ")))
		// As deep as this, a list may be, but what is in it is one deeper.
		checkWrong(t, nested(deepest, x.open, "x", x.end), 0, api.ErrLong, 0)
		place := len(strings.Repeat(x.open, deepest)) + strings.IndexAny(x.open, "([")
		checkWrong(t, nested(deepest+1, x.open, "", x.end), 0, api.ErrDeep, place)
		checkWrong(t, "a "+nested(deepest+1, x.open, "x", x.end), 1, api.ErrDeep, 2+place)
	}
	checkWrong(t, strings.Repeat("(", deepest+1), 0, api.ErrDeep, deepest)
	checkWrong(t, strings.Repeat("(", longestText), 0, api.ErrDeep, deepest)
	checkWrong(t, strings.Repeat("(", deepest), 0, api.ErrRead, deepest)
}

func TestDeepQuotes(t *testing.T) {
	for _, x := range []struct{ mark, name string }{{"'", "quote"}, {"`", "quasiquote"}, {",", "unquote"}, {",@", "unquote-splicing"}} {
		want := sym("x")
		for range deepest - 1 {
			want = list(sym(x.name), want)
		}
		s := strings.Repeat(x.mark, deepest-1) + "x"
		checkRead(t, s, 0, want, len(s))
		checkWrong(t, strings.Repeat(x.mark, deepest)+"x", 0, api.ErrLong, 0)
		checkWrong(t, strings.Repeat(x.mark, deepest)+"()", 0, api.ErrDeep, deepest*len(x.mark))
		checkWrong(t, strings.Repeat(x.mark, deepest+1)+"x", 0, api.ErrDeep, deepest*len(x.mark))
		checkWrong(t, strings.Repeat(x.mark, longestText/len(x.mark)), 0, api.ErrDeep, deepest*len(x.mark))
	}
	mixed := strings.Repeat("'(", deepest/2)
	checkWrong(t, mixed+"'x", 0, api.ErrDeep, deepest)
	checkWrong(t, mixed+"()", 0, api.ErrDeep, deepest)
	checkWrong(t, mixed+"x"+strings.Repeat(")", deepest/2), 0, api.ErrLong, 0)
	checkWrong(t, mixed+"x", 0, api.ErrRead, deepest+1)
}

// What is not read is as deep as what is, and its #; is one more.
func TestDeepRemarks(t *testing.T) {
	checkSkip(t, "#;"+nested(deepest-1, "(", "x", ")"), 0, 2*deepest+1, api.OK)
	checkSkip(t, "#;"+nested(deepest-1, "(", "", ")"), 0, 2*deepest, api.OK)
	checkSkip(t, "#;"+nested(deepest, "(", "", ")"), 0, deepest+1, api.ErrDeep)
	checkSkip(t, "#;"+strings.Repeat("'", deepest-1)+"x", 0, deepest+2, api.OK)
	checkSkip(t, "#;"+strings.Repeat("'", deepest)+"x", 0, deepest+1, api.ErrDeep)
	checkWrong(t, "  #; "+nested(deepest, "(", "", ")")+" a", 0, api.ErrDeep, deepest+4)
	checkRead(t, "#;"+nested(deepest-1, "(", "", ")")+"a", 0, sym("a"), 2*deepest+1)
	// It is one more for what is in it alone.
	s := "#;(a) #;b " + nested(deepest, "(", "", ")")
	checkRead(t, s, 0, chain(deepest-1, list()), len(s))
	checkSkip(t, "#;("+nested(deepest-1, "(", "", ")")+")", 0, deepest+1, api.ErrDeep)

	for _, x := range []struct{ open, end string }{{"(#;", ")"}, {"'#;", " a"}, {"#;(", ")"}, {"#;'", " a"}, {"#;#;", " a a"}} {
		s := nested(deepest/2-1, x.open, "()", x.end) + " a"
		if _, err := Skip(s, 0); err != api.OK {
			t.Errorf("Skip(%q): %v", shown(s), err)
		}
		if _, err := Skip("#;"+s, 0); err != api.OK {
			t.Errorf("Skip(%q): %v", shown("#;"+s), err)
		}
		s = nested(deepest/2, x.open, "()", x.end)
		checkWrong(t, s, 0, api.ErrDeep, deepest/2*len(x.open))
	}
	// A #; may have as many around it as it may; a list or a quote may not.
	s = strings.Repeat("#;", deepest-1) + "(x)" + strings.Repeat(" a", deepest-1)
	checkRead(t, s, 0, sym("a"), len(s))
	s = strings.Repeat("#;", deepest+1) + strings.Repeat(" a", deepest+2)
	checkRead(t, s, 0, sym("a"), len(s))
	checkWrong(t, strings.Repeat("#;", deepest)+"'x", 0, api.ErrDeep, 2*deepest)
}

// Lists behind dots are as deep in the text as others, but one list in what is read.
func TestDeepDots(t *testing.T) {
	items := slices.Repeat([]api.Datum{sym("a")}, deepest)
	s := nested(deepest-1, "(a . ", "(a)", ")")
	checkRead(t, s, 0, list(items...), len(s))
	s = nested(deepest, "(a . ", "x", ")")
	checkRead(t, s, 0, dotted(list(items...), sym("x")), len(s))
	checkWrong(t, nested(deepest, "(a . ", "()", ")"), 0, api.ErrDeep, 5*deepest)
	checkWrong(t, nested(deepest, "(a . ", "'x", ")"), 0, api.ErrDeep, 5*deepest)
	checkWrong(t, nested(deepest-1, "(", "(x . y)", ")"), 0, api.ErrLong, 0)
	s = nested(deepest-2, "(", "(x . y)", ")")
	checkRead(t, s, 0, chain(deepest-2, dotted(list(sym("x")), sym("y"))), len(s))
}

func TestMostItems(t *testing.T) {
	data := slices.Repeat([]api.Datum{num(false, 1)}, mostItems)
	for _, x := range []struct{ open, end string }{{"(", ")"}, {"[ ", "#;1]"}, {"(#;(1 1 1)", ";1\n)"}} {
		s := x.open + strings.Repeat("1 ", mostItems-1) + x.end
		checkRead(t, s, 0, list(data[1:]...), len(s))
		s = x.open + strings.Repeat("1 ", mostItems) + x.end
		checkWrong(t, s, 0, api.ErrLong, 0)
		checkWrong(t, "a "+s, 1, api.ErrLong, 0)
	}
	s := "(" + strings.Repeat("1 ", mostItems-2) + ". 1)"
	checkRead(t, s, 0, dotted(list(data[2:]...), data[0]), len(s))
	checkWrong(t, "("+strings.Repeat("1 ", mostItems-1)+". 1)", 0, api.ErrLong, 0)
	// A list behind a dot is none of the data.
	s = "(" + strings.Repeat("1 ", mostItems-2) + ". (1))"
	checkRead(t, s, 0, list(data[1:]...), len(s))
	checkWrong(t, "("+strings.Repeat("1 ", mostItems-1)+". (1))", 0, api.ErrLong, 0)
	// A quote is two more.
	s = "'(" + strings.Repeat("1 ", mostItems-3) + ")"
	checkRead(t, s, 0, list(sym("quote"), list(data[3:]...)), len(s))
	checkWrong(t, "'("+strings.Repeat("1 ", mostItems-2)+")", 0, api.ErrLong, 0)
	checkWrong(t, "("+strings.Repeat("()", mostItems)+")", 0, api.ErrLong, 0)
	checkWrong(t, "("+strings.Repeat("'a", mostItems/3)+" a a)", 0, api.ErrLong, 0)
}

// Being too long is behind all else that is wrong.
func TestLongIsLast(t *testing.T) {
	many := strings.Repeat("1 ", mostItems)
	checkWrong(t, "("+many, 0, api.ErrRead, 2*mostItems+1)
	checkWrong(t, "("+many+"]", 0, api.ErrRead, 2*mostItems+1)
	checkWrong(t, "("+many+"#x)", 0, api.ErrRead, 2*mostItems+1)
	checkWrong(t, "("+many+strings.Repeat("(", deepest), 0, api.ErrDeep, 2*mostItems+deepest)
	checkWrong(t, nested(deepest, "(", "x", ")")[:2*deepest], 0, api.ErrRead, 2*deepest)
}

// A text may be as long as it may, whatever stands in it.
func TestLongestTexts(t *testing.T) {
	for _, s := range []string{"(", ")", "[", "'", ",@", "#;", "#|", "|#", "#", "\"", "|", "\\", "\"\\", "a", "1", "1 ", "a .", "(a . ", ".", ";", "\n", " ", "(#;", "#;(", "'#;", "#;#|", "é", "\x00", "\xff", `"\x`, "()", "#;a ", "#||#", "\\\n"} {
		s = strings.Repeat(s, longestText/len(s))
		d, n, err := Read(s, 0)
		if n < 0 || n > len(s) || err != api.OK && !isZero(d) {
			t.Errorf("Read(%q): %d, %v", shown(s), n, err)
		}
		if n, err := Skip(s, 0); n < 0 || n > len(s) || err == api.ErrLong || err == api.ErrArg {
			t.Errorf("Skip(%q): %d, %v", shown(s), n, err)
		}
		if _, n, _ := All(s); n < 0 || n > len(s) {
			t.Errorf("All(%q): %d", shown(s), n)
		}
	}
	// As many #; as a text can have, one in another, and the data that they leave out.
	s := strings.Repeat("#;", longestText/4) + strings.Repeat(" a", longestText/4)
	checkSkip(t, s, 0, len(s), api.OK)
	checkWrong(t, s, 0, api.ErrRead, len(s))
}
