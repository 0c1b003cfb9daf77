package reader

import (
	"math"
	"strings"
	"testing"

	"pavane/api"
)

func checkSkip(t *testing.T, s string, at, want int, wantErr api.Errno) {
	t.Helper()
	if n, err := Skip(s, at); n != want || err != wantErr {
		t.Errorf("Skip(%q, %d): %d, %v, want %d, %v", shown(s), at, n, err, want, wantErr)
	}
}

func TestSkip(t *testing.T) {
	for _, x := range []struct {
		s    string
		want int
	}{
		{"", 0}, {"a", 0}, {" ", 1}, {" a", 1}, {"  a", 2}, {"\ta", 1}, {"\na", 1}, {"\ra", 1}, {"\fa", 1}, {" \t\n\r\fa ", 5}, {"\va", 0}, {"\x00", 0}, {"\u00a0", 0}, {"a b", 0}, {"(a)", 0}, {")", 0}, {"]", 0}, {".", 0}, {"#", 0}, {"#t", 0}, {"|a|", 0}, {"\"", 0}, {"|#", 0},
		{";", 1}, {"; a", 3}, {";a\nb", 3}, {";a\n", 3}, {";a\r b", 5}, {"; #| \"(\n b", 9}, {";;\n;\n", 5}, {"; a #;\n)", 7},
		{"#||#", 4}, {"#|a|#b", 5}, {"#|a|# b", 6}, {"#|#|a|#|#b", 9}, {"#|#||##||#|#", 12}, {"#|a #|b|# c|# d", 14}, {"#|a|#|#", 5}, {"#||||#", 6}, {"#| ; |#a", 7}, {"#| \" |#a", 7}, {"#| #; |#a", 8}, {"#|\n\n|#\na", 7}, {"#|# |#a", 6}, {"#|##||#|#a", 9}, {"#||a|#b", 6}, {"#|a|##|b|# #|c|#", 16},
		{"#;a", 3}, {"#;a b", 4}, {"#; a b", 5}, {"#;(a b)c", 7}, {"#;(a) 5", 6}, {"#;[a]b", 5}, {"#;'a b", 5}, {"#;\"a b\"c", 7}, {"#;|a b|c", 7}, {"#;;a\nb c", 7}, {"#;#|a|#b c", 9}, {"#;5 6", 4}, {"#;\n\na b", 6}, {"#;(a . b)c", 9}, {"#;() )", 5},
		{"#;#;a b c", 8}, {"#;#;a b", 7}, {"#;a #;b c", 8}, {"#; #; a b ;\n c", 13}, {"#;#;#;a b c d", 12}, {"#;(a #;b #;(c) . d) e", 20}, {"#|a|#;b\n#;c\n d", 13}, {"#;'#;a b c", 9},
	} {
		checkSkip(t, x.s, 0, x.want, api.OK)
		checkSkip(t, "a)"+x.s, 2, x.want+2, api.OK)
	}
}

func TestSkipFromAPlace(t *testing.T) {
	s := "a  ;b\n #|c|# d "
	for at, want := range []int{0, 13, 13, 13, 4, 13, 13, 13, 8, 9, 10, 11, 13, 13, 15, 15} {
		checkSkip(t, s, at, want, api.OK)
	}
}

func TestEveryByteSkipped(t *testing.T) {
	for c := range 256 {
		s := string([]byte{byte(c), 'a'})
		want := 0
		switch c {
		case ' ', '\t', '\n', '\r', '\f':
			want = 1
		case ';':
			want = 2
		}
		checkSkip(t, s, 0, want, api.OK)
	}
}

func TestSkipWrong(t *testing.T) {
	for _, x := range []struct {
		s     string
		place int
	}{
		{"#|", 0}, {"  #|", 2}, {"#|a", 0}, {"#|#", 0}, {"#|#|#", 0}, {"#|#|#|#|#", 0}, {"#|##|#a", 0}, {"#|#||#", 0}, {"#|a #|b", 0}, {"#||# #|", 5}, {"#| a | #", 0}, {"#||##|#||#", 4}, {" ;a\n#|", 4},
		{"#;", 2}, {"#; ", 3}, {"#;;a", 4}, {"#;#;", 4}, {"#;#;a", 5}, {"#;#;a ", 6}, {"#;)", 2}, {"#; ]", 3}, {"#;(a", 4}, {"#;(a]", 4}, {"#;.", 2}, {"#; . a", 3}, {"#;#x", 2}, {"#;#|a", 2}, {"#;\"a", 4}, {"#;\"\\q\"", 3}, {"#;||", 2}, {"#;'", 3}, {"#;(. a)", 3}, {"#;(a . b c)", 9}, {"#;a #;#x", 6}, {"#;é", 2}, {"#;#;#x y", 4}, {"#;#;a #x", 6}, {"#;(a #;)", 7}, {"#;" + strings.Repeat("x", longestName+1), 2}, {"#; \"" + strings.Repeat("x", longestString+1) + "\"", 3},
	} {
		checkSkip(t, x.s, 0, x.place, api.ErrRead)
		checkSkip(t, "#|"+x.s, 2, x.place+2, api.ErrRead)
		checkWrong(t, x.s, 0, api.ErrRead, x.place)
	}
}

func TestSkipArguments(t *testing.T) {
	for _, s := range []string{"", "a", " ;a"} {
		for _, at := range []int{-1, len(s) + 1, math.MinInt, math.MaxInt} {
			checkSkip(t, s, at, 0, api.ErrArg)
		}
		checkSkip(t, s, len(s), len(s), api.OK)
	}
	longest := ";" + strings.Repeat("a", longestText-1)
	checkSkip(t, longest, 0, longestText, api.OK)
	checkSkip(t, longest, longestText, longestText, api.OK)
	checkSkip(t, longest, longestText+1, 0, api.ErrArg)
	for _, at := range []int{0, 1, -1, longestText + 1, math.MinInt, math.MaxInt} {
		checkSkip(t, longest+"a", at, 0, api.ErrLong)
		checkSkip(t, "#|"+longest, at, 0, api.ErrLong)
	}
}
