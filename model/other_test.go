package model

import (
	"strings"

	"pavane/api"
	"pavane/prim"
	"pavane/write"
)

// What follows runs expressions in another way than the package: what is to be done behind is a Go function that takes the value, and each turn tells the next one, so that nothing grows but what these functions know.

// turn does some of a run, and tells what comes next; nil: it ended.
type turn func() turn

// then is what is done with a value.
type then func(any) turn

// Values are data that are atoms, and pointers to these.
type (
	otherPair      struct{ first, rest any }
	otherBox       struct{ is any }
	otherProcedure struct{ does func([]any, then) turn }
)

// other is a run in that way.
type other struct {
	input       []byte
	fuel, steps int
	end         api.Outcome
}

// otherRun is how e ends, and how many steps it took; e is Closed.
func otherRun(e api.Expr, input []byte, fuel int) (api.Outcome, int) {
	o := &other{input: input, fuel: fuel}
	next := o.run(e, map[int]*any{}, func(v any) turn {
		o.end.Value = o.value(v)
		return nil
	})
	for next != nil {
		next = next()
	}
	return o.end, o.steps
}

// fail ends the run.
func (o *other) fail(err api.Errno) turn {
	o.end.Err = err
	return nil
}

// stepped does t, if a step is left.
func (o *other) stepped(t turn) turn {
	return func() turn {
		if o.steps+1 > max(o.fuel, 0) {
			return o.fail(api.ErrFuel)
		}
		o.steps++
		return t()
	}
}

func (o *other) run(e api.Expr, in map[int]*any, k then) turn {
	return o.stepped(func() turn {
		switch e.Kind {
		case api.ExConst:
			return k(pairsOf(e.D))
		case api.ExVar:
			return k(*in[e.V])
		case api.ExSet:
			return o.run(e.Kids[0], in, func(v any) turn {
				*in[e.V] = v
				return k(api.Datum{})
			})
		case api.ExIf:
			return o.run(e.Kids[0], in, func(v any) turn {
				if d, ok := v.(api.Datum); ok && d.Kind == api.Bool && !d.B {
					return o.run(e.Kids[2], in, k)
				}
				return o.run(e.Kids[1], in, k)
			})
		case api.ExLet:
			return o.run(e.Kids[0], in, func(v any) turn {
				return o.run(e.Kids[1], with(in, []int{e.V}, []any{v}), k)
			})
		case api.ExSeq:
			return o.run(e.Kids[0], in, func(any) turn { return o.run(e.Kids[1], in, k) })
		case api.ExLambda:
			return k(&otherProcedure{func(l []any, k then) turn { return o.enter(e, in, l, k) }})
		}
		return o.row(e.Kids, in, nil, func(l []any) turn {
			if e.Kind == api.ExCall {
				return o.call(l[0], l[1:], k)
			}
			return o.primitive(e.P, l, k)
		})
	})
}

// row reckons kids, one behind the other; done are the values so far, which others may go on with too.
func (o *other) row(kids []api.Expr, in map[int]*any, done []any, k func([]any) turn) turn {
	if len(kids) == 0 {
		return k(done)
	}
	return o.run(kids[0], in, func(v any) turn {
		return o.row(kids[1:], in, append(done[:len(done):len(done)], v), k)
	})
}

// with is in, and new variables.
func with(in map[int]*any, vars []int, l []any) map[int]*any {
	out := map[int]*any{}
	for v, is := range in {
		out[v] = is
	}
	for i, v := range vars {
		is := l[i]
		out[v] = &is
	}
	return out
}

func (o *other) enter(e api.Expr, in map[int]*any, l []any, k then) turn {
	if e.Rest {
		last := len(e.Vars) - 1
		if len(l) < last {
			return o.fail(api.ErrArity)
		}
		var rest any = api.Datum{Kind: api.List}
		for i := len(l); i > last; i-- {
			rest = &otherPair{l[i-1], rest}
		}
		l = append(l[:last:last], rest)
	}
	if len(l) != len(e.Vars) {
		return o.fail(api.ErrArity)
	}
	return o.run(e.Kids[0], with(in, e.Vars, l), k)
}

func (o *other) call(f any, l []any, k then) turn {
	p, ok := f.(*otherProcedure)
	if !ok {
		return o.fail(api.ErrType)
	}
	return o.stepped(func() turn { return p.does(l, k) })
}

func pairsOf(d api.Datum) any {
	if len(d.Items) == 0 {
		return d
	}
	rest := d
	rest.Items = d.Items[1:]
	if len(rest.Items) == 0 && len(d.Tail) > 0 {
		rest = d.Tail[0]
	}
	return &otherPair{pairsOf(d.Items[0]), pairsOf(rest)}
}

// value is what v is written as, "" of too many pairs.
func (o *other) value(v any) string {
	s, _ := otherText(v, write.Write)
	return s
}

func otherText(v any, atom func(api.Datum) string) (string, bool) {
	left := pairsMost
	var out strings.Builder
	var text func(v any, inside bool)
	text = func(v any, inside bool) {
		if left < 0 {
			return
		}
		switch v := v.(type) {
		case *otherPair:
			left--
			out.WriteString(map[bool]string{true: " ", false: "("}[inside])
			text(v.first, false)
			text(v.rest, true)
			return
		case api.Datum:
			switch {
			case !inside:
				out.WriteString(atom(v))
			case v.Kind != api.List:
				out.WriteString(" . " + atom(v))
			}
		default:
			sign := "#p"
			if _, ok := v.(*otherBox); ok {
				sign = "#b"
			}
			out.WriteString(map[bool]string{true: " . ", false: ""}[inside] + sign)
		}
		if inside {
			out.WriteByte(')')
		}
	}
	text(v, false)
	if left < 0 {
		return "", false
	}
	return out.String(), true
}

func (o *other) written(s string, ok bool, k then) turn {
	if !ok || len(o.end.Out)+len(s) > bytesMost {
		return o.fail(api.ErrLong)
	}
	o.end.Out += s
	return k(api.Datum{})
}

func (o *other) primitive(p int, l []any, k then) turn {
	yes := func(b bool) turn { return k(api.Datum{Kind: api.Bool, B: b}) }
	if len(l) > 0 {
		if t, done := o.ofPlaces(p, l, k); done {
			return t
		}
	}
	switch p {
	case api.PCons:
		return k(&otherPair{l[0], l[1]})
	case api.PBox:
		return k(&otherBox{l[0]})
	case api.PVoid:
		return k(api.Datum{})
	case api.PProcQ:
		_, ok := l[0].(*otherProcedure)
		return yes(ok)
	case api.PWrite:
		s, ok := otherText(l[0], write.Write)
		return o.written(s, ok, k)
	case api.PDisplay:
		s, ok := otherText(l[0], write.Display)
		return o.written(s, ok, k)
	case api.PNewline:
		return o.written("\n", true, k)
	case api.PRead:
		if len(o.input) == 0 {
			return yes(false)
		}
		b := o.input[0]
		o.input = o.input[1:]
		d := api.Datum{Kind: api.Num}
		if b > 0 {
			d.I.L = []uint32{uint32(b)}
		}
		return k(d)
	case api.PRaise:
		o.end.Value = o.value(l[0])
		return o.fail(api.ErrRaise)
	case api.PCallCC:
		again := &otherProcedure{func(l []any, _ then) turn {
			if len(l) != 1 {
				return o.fail(api.ErrArity)
			}
			return k(l[0])
		}}
		return o.call(l[0], []any{again}, k)
	case api.PApply:
		return o.apply(l, k)
	case api.PEqQ:
		a, isA := l[0].(api.Datum)
		b, isB := l[1].(api.Datum)
		if isA && isB {
			return yes(prim.Eq(a, b))
		}
		return yes(!isA && !isB && l[0] == l[1])
	case api.PPairQ:
		_, ok := l[0].(*otherPair)
		return yes(ok)
	}
	return o.plain(p, l, k)
}

// ofPlaces is what looks at places of pairs and boxes.
func (o *other) ofPlaces(p int, l []any, k then) (turn, bool) {
	pair, isPair := l[0].(*otherPair)
	box, isBox := l[0].(*otherBox)
	var place *any
	switch {
	case p == api.PCar || p == api.PSetCar:
		if isPair {
			place = &pair.first
		}
	case p == api.PCdr || p == api.PSetCdr:
		if isPair {
			place = &pair.rest
		}
	case p == api.PUnbox || p == api.PSetBox:
		if isBox {
			place = &box.is
		}
	default:
		return nil, false
	}
	if place == nil {
		return o.fail(api.ErrType), true
	}
	if len(l) == 1 {
		return k(*place), true
	}
	*place = l[1]
	return k(api.Datum{}), true
}

func (o *other) apply(l []any, k then) turn {
	var args []any
	rest := l[1]
	for {
		p, ok := rest.(*otherPair)
		if !ok {
			break
		}
		args = append(args, p.first)
		if len(args) > itemsMost {
			return o.fail(api.ErrLong)
		}
		rest = p.rest
	}
	if d, ok := rest.(api.Datum); !ok || d.Kind != api.List {
		return o.fail(api.ErrType)
	}
	return o.call(l[0], args, k)
}

func (o *other) plain(p int, l []any, k then) turn {
	var data []api.Datum
	for _, v := range l {
		d, ok := v.(api.Datum)
		if !ok {
			switch p {
			case api.PNullQ, api.PNumQ, api.PSymQ, api.PStrQ, api.PBoolQ, api.PNot:
				return k(api.Datum{Kind: api.Bool})
			}
			return o.fail(api.ErrType)
		}
		data = append(data, d)
	}
	d, err := prim.Do(p, data)
	if err != api.OK {
		return o.fail(err)
	}
	return k(d)
}
