package graph

import (
	"scutage/api"
	"scutage/code"
	"scutage/word"
)

// The kinds of steps.
const (
	kindStart = iota + 1
	kindStop
	kindAlloc
	kindNumber
	kindNothing
	kindGlobal
	kindAgain
	kindPop
	kindRead
	kindWrite
	kindSame
	kindSize
	kindRun
	kindPoll
	kindAhead
	kindBack
	kindBegin
)

// within tells whether n is from least to most.
func within(n int64, least int64, most int64) bool {
	return n >= least && n <= most
}

// Do does a step, and tells its answer. Where a collector would have a say in it, no is that: an error, if it refuses.
func (g *Graph) Do(x api.Step, no api.Errno) api.Answer {
	v, e := g.do(x, no)
	if e != api.OK {
		return api.Answer{Code: e}
	}
	return api.Answer{Kind: v.Kind, N: v.N}
}

// do does a step, and answers the value that it tells, or why nothing is done.
func (g *Graph) do(x api.Step, no api.Errno) (api.Value, api.Errno) {
	if !g.made() {
		return api.Value{}, api.ErrState
	}
	if e := code.Check(x); e != api.OK {
		return api.Value{}, e
	}
	switch x.Kind {
	case kindBack:
		return api.Value{}, ticks(x)
	case kindBegin:
		return api.Value{}, no
	}
	if e := g.turn(x); e != api.OK {
		return api.Value{}, e
	}
	return g.act(&g.threads[x.T], x, no)
}

// turn is OK, if the step's thread is there, and may do it: to start is for those that are not live, all else for those that are.
func (g *Graph) turn(x api.Step) api.Errno {
	if x.T >= len(g.threads) {
		return api.ErrRange
	}
	live, starts := g.threads[x.T].live, x.Kind == kindStart
	switch {
	case live && starts:
		return api.ErrState
	case !live && !starts:
		return api.ErrNone
	}
	return api.OK
}

// act lets t do the step, whose turn it is.
func (g *Graph) act(t *thread, x api.Step, no api.Errno) (api.Value, api.Errno) {
	switch x.Kind {
	case kindStart:
		t.live = true
	case kindStop:
		*t = thread{}
	case kindAlloc:
		return g.alloc(t, x, no)
	case kindNumber, kindNothing, kindGlobal, kindAgain, kindRead:
		return g.lay(t, x)
	case kindPop:
		return t.pop()
	case kindWrite:
		return api.Value{}, g.write(t, x)
	case kindSame:
		return t.same(x)
	case kindSize:
		return g.size(t, x)
	case kindRun:
		return api.Value{}, ticks(x)
	case kindAhead:
		return api.Value{}, g.ahead(x, no)
	}
	// To poll is for a collector: nothing is left to be done.
	return api.Value{}, api.OK
}

// ticks is ErrRange, if the step has not as many letters, or units, as may be.
func ticks(x api.Step) api.Errno {
	if !within(x.N, 1, api.MaxTicks) {
		return api.ErrRange
	}
	return api.OK
}

// cost is ErrRange, if a unit can't cost that much.
func (g *Graph) cost(x api.Step) api.Errno {
	if x.Cost < 1 || x.Cost > g.quantum {
		return api.ErrRange
	}
	return api.OK
}

// ahead is why no work is done ahead: N or Cost may not be, or it is refused.
func (g *Graph) ahead(x api.Step, no api.Errno) api.Errno {
	if e := ticks(x); e != api.OK {
		return e
	}
	if e := g.cost(x); e != api.OK {
		return e
	}
	return no
}

// alloc makes an object with N fields that t holds then.
func (g *Graph) alloc(t *thread, x api.Step, no api.Errno) (api.Value, api.Errno) {
	if !within(x.N, 0, api.MaxFields) {
		return api.Value{}, api.ErrRange
	}
	if e := g.cost(x); e != api.OK {
		return api.Value{}, e
	}
	// Asked ahead of no, and before the object is made: what is made stays.
	if t.full() {
		return api.Value{}, api.ErrCount
	}
	if no != api.OK {
		return api.Value{}, no
	}
	v := g.add(int(x.N))
	return v, t.push(v)
}

// lay lays the value that the step tells on top of what t holds.
func (g *Graph) lay(t *thread, x api.Step) (api.Value, api.Errno) {
	v, e := g.value(t, x)
	if e != api.OK {
		return api.Value{}, e
	}
	return v, t.push(v)
}

// value is what such a step lays on top.
func (g *Graph) value(t *thread, x api.Step) (api.Value, api.Errno) {
	switch x.Kind {
	case kindNumber:
		v := api.Value{Kind: api.Number, N: x.N}
		return v, word.Check(v)
	case kindGlobal:
		return reference(global), api.OK
	case kindAgain:
		return t.get(x.I)
	case kindRead:
		field, e := g.field(t, x)
		if e != api.OK {
			return api.Value{}, e
		}
		return *field, api.OK
	}
	return api.Value{}, api.OK
}

// fields is those of the object that value I refers to, in the graph's own memory.
func (g *Graph) fields(t *thread, x api.Step) ([]api.Value, api.Errno) {
	v, e := t.get(x.I)
	if e != api.OK {
		return nil, e
	}
	if v.Kind != api.Reference {
		return nil, api.ErrKind
	}
	return g.objects[v.N], api.OK
}

// field is where field F of that object stands.
func (g *Graph) field(t *thread, x api.Step) (*api.Value, api.Errno) {
	fields, e := g.fields(t, x)
	if e != api.OK {
		return nil, e
	}
	if x.F >= len(fields) {
		return nil, api.ErrRange
	}
	return &fields[x.F], api.OK
}

// write makes that field be value J.
func (g *Graph) write(t *thread, x api.Step) api.Errno {
	field, e := g.field(t, x)
	if e != api.OK {
		return e
	}
	v, e := t.get(x.J)
	if e != api.OK {
		return e
	}
	*field = v
	return api.OK
}

// size is how many fields that object has.
func (g *Graph) size(t *thread, x api.Step) (api.Value, api.Errno) {
	fields, e := g.fields(t, x)
	if e != api.OK {
		return api.Value{}, e
	}
	return word.Number(int64(len(fields))), api.OK
}

// same is 1, if values I and J are alike; else 0.
func (h *held) same(x api.Step) (api.Value, api.Errno) {
	a, e := h.get(x.I)
	if e != api.OK {
		return api.Value{}, e
	}
	b, e := h.get(x.J)
	if e != api.OK {
		return api.Value{}, e
	}
	if a == b {
		return word.Number(1), api.OK
	}
	return word.Number(0), api.OK
}
