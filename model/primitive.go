package model

import (
	"pavane/api"
	"pavane/datum"
	"pavane/prim"
	"pavane/write"
)

// mostApplied is how many items a list may have with which something is called.
const mostApplied = 1000

// primitive does p with as many values as it takes.
func (m *machine) primitive(p int, l []value) api.Errno {
	switch p {
	case api.PCons:
		return m.tell(m.pairOf(l[0], l[1]))
	case api.PCar:
		return m.ofPair(l[0], func(p *pair) value { return p.first })
	case api.PCdr:
		return m.ofPair(l[0], func(p *pair) value { return p.rest })
	case api.PSetCar:
		return m.ofPair(l[0], func(p *pair) value {
			p.first = l[1]
			return nothing()
		})
	case api.PSetCdr:
		return m.ofPair(l[0], func(p *pair) value {
			p.rest = l[1]
			return nothing()
		})
	case api.PBox:
		return m.tell(&box{identity: m.another(aBox), is: l[0]})
	case api.PUnbox:
		return m.ofBox(l[0], func(b *box) value { return b.is })
	case api.PSetBox:
		return m.ofBox(l[0], func(b *box) value {
			b.is = l[1]
			return nothing()
		})
	case api.PProcQ:
		kind := l[0].who().kind
		return m.tell(truth(kind == aProcedure || kind == aContinuation))
	case api.PVoid:
		return m.tell(nothing())
	case api.PWrite:
		return m.show(l[0], write.Write)
	case api.PDisplay:
		return m.show(l[0], write.Display)
	case api.PNewline:
		return m.put("\n")
	case api.PRead:
		return m.tell(m.read())
	case api.PRaise:
		m.tell(l[0])
		return api.ErrRaise
	case api.PCallCC:
		return m.call(l[0], []value{&continuation{identity: m.another(aContinuation), behind: m.now.behind}})
	case api.PApply:
		return m.apply(l[0], l[1])
	}
	return m.plain(p, l)
}

// ofPair tells what does does with the pair v; ErrType, if v is none.
func (m *machine) ofPair(v value, does func(*pair) value) api.Errno {
	p, is := v.(*pair)
	if !is {
		return api.ErrType
	}
	return m.tell(does(p))
}

// ofBox tells what does does with the box v; ErrType, if v is none.
func (m *machine) ofBox(v value, does func(*box) value) api.Errno {
	b, is := v.(*box)
	if !is {
		return api.ErrType
	}
	return m.tell(does(b))
}

// show writes v; as tells of an atom what it is written as.
func (m *machine) show(v value, as func(api.Datum) string) api.Errno {
	s, few := textOf(v, as)
	if !few {
		return api.ErrLong
	}
	return m.put(s)
}

// put writes s.
func (m *machine) put(s string) api.Errno {
	if len(m.out)+len(s) > api.MaxOut {
		return api.ErrLong
	}
	m.out = append(m.out, s...)
	return m.tell(nothing())
}

// read is the next byte of the input; #f behind its end.
func (m *machine) read() value {
	if len(m.input) == 0 {
		return truth(false)
	}
	b := m.input[0]
	m.input = m.input[1:]
	return atomOf(datum.Number(int(b)))
}

// apply calls f with the items of a list: whether it is one comes ahead of whether f can be called.
func (m *machine) apply(f, list value) api.Errno {
	l, err := items(list, mostApplied)
	if err != api.OK {
		return err
	}
	return m.call(f, l)
}

// plain does one of prim's Plain primitives.
func (m *machine) plain(p int, l []value) api.Errno {
	data := make([]api.Datum, len(l))
	for i, v := range l {
		a, is := v.(atom)
		if !is {
			return m.ofThings(p, l)
		}
		data[i] = *a.datum
	}
	d, err := prim.Do(p, data)
	if err != api.OK {
		return err
	}
	return m.tell(atomOf(d))
}

// ofThings does a Plain primitive of values that are not all atoms: those that do not look for a kind tell what they tell of atoms of another kind.
func (m *machine) ofThings(p int, l []value) api.Errno {
	switch p {
	case api.PNullQ, api.PNumQ, api.PSymQ, api.PStrQ, api.PBoolQ, api.PNot:
		return m.tell(truth(false))
	case api.PPairQ:
		return m.tell(truth(l[0].who().kind == aPair))
	case api.PEqQ:
		return m.tell(truth(l[0].who() == l[1].who()))
	}
	return api.ErrType
}
