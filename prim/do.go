package prim

import (
	"pavane/api"
	"pavane/core"
	"pavane/datum"
	"pavane/whole"
)

// doing is what a primitive does with as many data as it takes.
type doing func(l []api.Datum) (api.Datum, api.Errno)

// Do: what the primitive p tells of the data l; ErrArg, if it is not Plain, ErrArity, if it takes more or fewer, and its own errors.
func Do(p int, l []api.Datum) (api.Datum, api.Errno) {
	do := doingOf(p)
	if do == nil {
		return api.Datum{}, api.ErrArg
	}
	if len(l) != core.Arity(p) {
		return api.Datum{}, api.ErrArity
	}
	return do(l)
}

// doingOf chooses what p does; nil, if it is not Plain.
func doingOf(p int) doing {
	switch p {
	case api.PAdd:
		return reckoned(sure(whole.Add))
	case api.PSub:
		return reckoned(sure(whole.Sub))
	case api.PMul:
		return reckoned(sure(whole.Mul))
	case api.PQuo:
		return reckoned(quotient(whole.Quo))
	case api.PRem:
		return reckoned(left(whole.Quo))
	case api.PMod:
		return reckoned(left(whole.Floor))
	case api.PEq:
		return compared(func(order int) bool { return order == 0 })
	case api.PLess:
		return compared(func(order int) bool { return order < 0 })
	case api.PNullQ:
		return asked(isEmpty)
	case api.PPairQ:
		return asked(isPair)
	case api.PNumQ:
		return asked(isOf(api.Num))
	case api.PSymQ:
		return asked(isOf(api.Sym))
	case api.PStrQ:
		return asked(isOf(api.Str))
	case api.PBoolQ:
		return asked(isOf(api.Bool))
	case api.PEqQ:
		return told(func(l []api.Datum) api.Datum { return datum.Truth(Eq(l[0], l[1])) })
	case api.PNot:
		return asked(isFalse)
	case api.PStrLen:
		return only(api.Str, told(func(l []api.Datum) api.Datum { return datum.Number(len(l[0].S)) }))
	case api.PStrApp:
		return only(api.Str, joined)
	case api.PStrEq:
		return only(api.Str, told(func(l []api.Datum) api.Datum { return datum.Truth(l[0].S == l[1].S) }))
	case api.PSymStr:
		return only(api.Sym, told(func(l []api.Datum) api.Datum { return datum.Text(l[0].S) }))
	case api.PNumStr:
		return only(api.Num, told(func(l []api.Datum) api.Datum { return datum.Text(whole.Text(l[0].I)) }))
	}
	return nil
}

// told is a doing that has no error.
func told(f func(l []api.Datum) api.Datum) doing {
	return func(l []api.Datum) (api.Datum, api.Errno) {
		return f(l), api.OK
	}
}

// asked tells whether something holds of one datum.
func asked(holds func(api.Datum) bool) doing {
	return told(func(l []api.Datum) api.Datum { return datum.Truth(holds(l[0])) })
}

// only is do of data of that Kind; ErrType of others.
func only(kind int, do doing) doing {
	is := isOf(kind)
	return func(l []api.Datum) (api.Datum, api.Errno) {
		for _, d := range l {
			if !is(d) {
				return api.Datum{}, api.ErrType
			}
		}
		return do(l)
	}
}

func isOf(kind int) func(api.Datum) bool {
	return func(d api.Datum) bool { return d.Kind == kind }
}

// joined is two strings in one.
func joined(l []api.Datum) (api.Datum, api.Errno) {
	if len(l[0].S)+len(l[1].S) > api.MaxStr {
		return api.Datum{}, api.ErrLong
	}
	return datum.Text(l[0].S + l[1].S), api.OK
}
