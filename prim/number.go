package prim

import (
	"pavane/api"
	"pavane/datum"
	"pavane/whole"
)

// reckoning makes a number of two.
type reckoning func(a, b api.Int) (api.Int, api.Errno)

// division makes a quotient of two numbers, and what is left.
type division func(a, b api.Int) (api.Int, api.Int, api.Errno)

// reckoned is a doing that makes a number of two, which must not be too long.
func reckoned(f reckoning) doing {
	return only(api.Num, func(l []api.Datum) (api.Datum, api.Errno) {
		n, err := f(l[0].I, l[1].I)
		if err != api.OK {
			return api.Datum{}, err
		}
		if len(n.L) > api.MaxLimbs {
			return api.Datum{}, api.ErrLong
		}
		return api.Datum{Kind: api.Num, I: n}, api.OK
	})
}

// compared is a doing that tells whether the order of two numbers, -1, 0 or 1, is as it should be.
func compared(holds func(order int) bool) doing {
	return only(api.Num, told(func(l []api.Datum) api.Datum {
		return datum.Truth(holds(whole.Cmp(l[0].I, l[1].I)))
	}))
}

// sure is a reckoning that has no error.
func sure(f func(a, b api.Int) api.Int) reckoning {
	return func(a, b api.Int) (api.Int, api.Errno) {
		return f(a, b), api.OK
	}
}

func quotient(divide division) reckoning {
	return func(a, b api.Int) (api.Int, api.Errno) {
		n, _, err := divide(a, b)
		return n, err
	}
}

func left(divide division) reckoning {
	return func(a, b api.Int) (api.Int, api.Errno) {
		_, n, err := divide(a, b)
		return n, err
	}
}
