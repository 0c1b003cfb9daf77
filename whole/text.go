package whole

import (
	"pavane/api"
	"pavane/nat"
)

const base = 10

// Text: a's digits to base 10, a - ahead, if it is below 0.
func Text(a api.Int) string {
	text := nat.Text(a.L, base)
	if below(a) {
		return "-" + text
	}
	return text
}

// Parse: the number of a -, a + or neither, and 1 to 1000 digits; false of any other text.
func Parse(s string) (api.Int, bool) {
	neg := false
	if len(s) > 0 && (s[0] == '-' || s[0] == '+') {
		neg = s[0] == '-'
		s = s[1:]
	}
	limbs, ok := nat.Parse(s, base)
	if !ok {
		return api.Int{}, false
	}
	return signed(neg, limbs), true
}
