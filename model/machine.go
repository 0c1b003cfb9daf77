package model

import (
	"pavane/api"
)

// machine is one run.
type machine struct {
	// input is what was not read yet.
	input []byte
	out   []byte
	fuel  int
	steps int
	// made is how many things of each kind there were so far.
	made [aBox + 1]int
	now  state
}

// state is where a run is: there is an expression to be reckoned, with the variables around it, or, without one, there is its value; and what is to be done behind.
type state struct {
	e      *api.Expr
	in     *variable
	is     value
	behind *frame
}

// frame is what is to be done with the value of one of e's Kids, that at this place; done are the values of those ahead of it. It is never changed, as a continuation may go on with it again.
type frame struct {
	e      *api.Expr
	in     *variable
	at     int
	done   *row
	behind *frame
}

// run goes on till nothing is to be done; its value is now's, and, of ErrRaise, what was raised.
func (m *machine) run() api.Errno {
	for {
		err := api.OK
		switch {
		case m.now.e != nil:
			err = m.begin()
		case m.now.behind != nil:
			err = m.goOn(m.now.behind)
		default:
			return api.OK
		}
		if err != api.OK {
			return err
		}
	}
}

func (m *machine) step() api.Errno {
	if m.steps >= m.fuel {
		return api.ErrFuel
	}
	m.steps++
	return api.OK
}

// reckon: e is to be reckoned next, then what is behind.
func (m *machine) reckon(e *api.Expr, in *variable, behind *frame) api.Errno {
	m.now = state{e: e, in: in, behind: behind}
	return api.OK
}

// tell: v is what was reckoned.
func (m *machine) tell(v value) api.Errno {
	m.now.e, m.now.in, m.now.is = nil, nil, v
	return api.OK
}

// begin begins the expression that is to be reckoned.
func (m *machine) begin() api.Errno {
	err := m.step()
	if err != api.OK {
		return err
	}
	e, in := m.now.e, m.now.in
	switch e.Kind {
	case api.ExConst:
		return m.tell(m.valueOf(&e.D))
	case api.ExVar:
		return m.tell(in.of(e.V).is)
	case api.ExLambda:
		return m.tell(&procedure{identity: m.another(aProcedure), lambda: e, in: in})
	}
	return m.kids(frame{e: e, in: in, behind: m.now.behind})
}

// goOn does what f says with the value that there is. What comes last of an expression has nothing of it behind, so that a tail call takes no room.
func (m *machine) goOn(f *frame) api.Errno {
	e, is := f.e, m.now.is
	m.now.behind = f.behind
	switch e.Kind {
	case api.ExSet:
		f.in.of(e.V).is = is
		return m.tell(nothing())
	case api.ExIf:
		if isTrue(is) {
			return m.reckon(&e.Kids[1], f.in, f.behind)
		}
		return m.reckon(&e.Kids[2], f.in, f.behind)
	case api.ExLet:
		return m.reckon(&e.Kids[1], &variable{number: e.V, is: is, around: f.in}, f.behind)
	case api.ExSeq:
		return m.reckon(&e.Kids[1], f.in, f.behind)
	}
	return m.kids(frame{e: e, in: f.in, at: f.at + 1, done: &row{is: is, ahead: f.done}, behind: f.behind})
}

// kids reckons the next of f's Kids; behind the last one comes the call, or the primitive.
func (m *machine) kids(f frame) api.Errno {
	if f.at < len(f.e.Kids) {
		behind := f
		return m.reckon(&f.e.Kids[f.at], f.in, &behind)
	}
	l := f.done.list(f.at)
	if f.e.Kind == api.ExPrim {
		return m.primitive(f.e.P, l)
	}
	return m.call(l[0], l[1:])
}

// call calls f with the values l, and goes on with what is behind.
func (m *machine) call(f value, l []value) api.Errno {
	switch f := f.(type) {
	case *procedure:
		return m.enter(f, l)
	case *continuation:
		return m.resume(f, l)
	}
	return api.ErrType
}

// enter reckons p's body with the values l. It is called, and that is a step, even where these are too few or too many.
func (m *machine) enter(p *procedure, l []value) api.Errno {
	err := m.step()
	if err != api.OK {
		return err
	}
	vars, in := p.lambda.Vars, p.in
	single := len(vars)
	if p.lambda.Rest {
		single--
	}
	if len(l) < single || len(l) > single && !p.lambda.Rest {
		return api.ErrArity
	}
	for i, is := range l[:single] {
		in = &variable{number: vars[i], is: is, around: in}
	}
	if p.lambda.Rest {
		in = &variable{number: vars[single], is: m.listOf(l[single:]), around: in}
	}
	return m.reckon(&p.lambda.Kids[0], in, m.now.behind)
}

// resume goes on with what was to be done when c was taken.
func (m *machine) resume(c *continuation, l []value) api.Errno {
	err := m.step()
	if err != api.OK {
		return err
	}
	if len(l) != 1 {
		return api.ErrArity
	}
	m.now.behind = c.behind
	return m.tell(l[0])
}

// another is an identity that nothing of this run has yet.
func (m *machine) another(k kind) identity {
	m.made[k]++
	return identity{kind: k, number: m.made[k]}
}

func (m *machine) pairOf(first, rest value) value {
	return &pair{identity: m.another(aPair), first: first, rest: rest}
}

// listOf is a list of new pairs of l.
func (m *machine) listOf(l []value) value {
	end := empty()
	for i := len(l) - 1; i >= 0; i-- {
		end = m.pairOf(l[i], end)
	}
	return end
}

// valueOf is the value of a constant: new pairs, if it is a list with items.
func (m *machine) valueOf(d *api.Datum) value {
	if d.Kind != api.List || len(d.Items) == 0 {
		return atom{datum: d}
	}
	end := empty()
	if len(d.Tail) > 0 {
		end = atom{datum: &d.Tail[0]}
	}
	for i := len(d.Items) - 1; i >= 0; i-- {
		end = m.pairOf(m.valueOf(&d.Items[i]), end)
	}
	return end
}
