package reader

import (
	"slices"
	"strings"
	"testing"

	"pavane/api"
)

func checkAll(t *testing.T, s string, want []api.Datum, place int, wantErr api.Errno) {
	t.Helper()
	l, n, err := All(s)
	if n != place || err != wantErr || !slices.EqualFunc(l, want, exactly) {
		t.Errorf("All(%q): %d data, %d, %v, want %d, %d, %v", shown(s), len(l), n, err, len(want), place, wantErr)
	}
}

func TestAll(t *testing.T) {
	a, b, quoted := sym("a"), sym("b"), list(sym("quote"), sym("x"))
	for _, x := range []struct {
		s    string
		want []api.Datum
	}{
		{"", nil}, {" ", nil}, {"\n\t", nil}, {"; a", nil}, {"#|a|#", nil}, {"#;a", nil}, {"#;a #;b", nil}, {"#;#;a b", nil},
		{"a", []api.Datum{a}}, {" a ", []api.Datum{a}}, {"a b", []api.Datum{a, b}}, {"a;\nb;", []api.Datum{a, b}}, {"#;(a) 5 'x", []api.Datum{num(false, 5), quoted}}, {"a #;b", []api.Datum{a}},
		{"()()", []api.Datum{list(), list()}}, {"(a)b[a . b]", []api.Datum{list(a), b, dotted(list(a), b)}}, {"'x'x", []api.Datum{quoted, quoted}}, {`a"b"|b|"a"`, []api.Datum{a, str("b"), b, str("a")}}, {"#t #f", []api.Datum{boolean(true), boolean(false)}}, {"1 -1 +1", []api.Datum{num(false, 1), num(true, 1), num(false, 1)}},
		{"(a . (b)) #||# ((a))\n", []api.Datum{list(a, b), list(list(a))}}, {"a a a", []api.Datum{a, a, a}},
	} {
		checkAll(t, x.s, x.want, len(x.s), api.OK)
	}
}

func TestAllWrong(t *testing.T) {
	a, b := sym("a"), sym("b")
	for _, x := range []struct {
		s     string
		want  []api.Datum
		place int
	}{
		{")", nil, 0}, {"(", nil, 1}, {"#", nil, 0}, {".", nil, 0}, {"#|", nil, 0}, {"#;", nil, 2}, {"'", nil, 1},
		{"a )", []api.Datum{a}, 2}, {"a b]", []api.Datum{a, b}, 3}, {"a (b", []api.Datum{a}, 4}, {"a . b", []api.Datum{a}, 2}, {"a #| b", []api.Datum{a}, 2}, {"a #;", []api.Datum{a}, 4}, {"a #;b #;(a", []api.Datum{a}, 10}, {"a b #x a", []api.Datum{a, b}, 4}, {"a \"\\q\" b", []api.Datum{a}, 3}, {"(a) b '", []api.Datum{list(a), b}, 7}, {"a || b", []api.Datum{a}, 2}, {"a#", nil, 0}, {"a b #;#x", []api.Datum{a, b}, 6},
	} {
		checkAll(t, x.s, x.want, x.place, api.ErrRead)
	}
	deep := nested(deepest+1, "(", "", ")")
	checkAll(t, "a b "+deep, []api.Datum{a, b}, 4+deepest, api.ErrDeep)
	checkAll(t, "a #;"+deep, []api.Datum{a}, 3+deepest, api.ErrDeep)
	long := "(" + strings.Repeat("1 ", mostItems) + ")"
	checkAll(t, long, nil, 0, api.ErrLong)
	checkAll(t, "a b "+long+" a", []api.Datum{a, b}, 0, api.ErrLong)
	checkAll(t, nested(deepest, "(", "x", ")"), nil, 0, api.ErrLong)
}

func TestAllOfLongTexts(t *testing.T) {
	s := strings.Repeat("a ", longestText/2)
	checkAll(t, s, slices.Repeat([]api.Datum{sym("a")}, longestText/2), longestText, api.OK)
	checkAll(t, s+"a", nil, 0, api.ErrLong)
	checkAll(t, strings.Repeat(" ", longestText+1), nil, 0, api.ErrLong)
	checkAll(t, ")"+s, nil, 0, api.ErrLong)
	s = strings.Repeat("()", longestText/2)
	checkAll(t, s, slices.Repeat([]api.Datum{list()}, longestText/2), longestText, api.OK)
	checkAll(t, s[:longestText-1], slices.Repeat([]api.Datum{list()}, longestText/2-1), longestText-1, api.ErrRead)
}
