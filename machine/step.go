package machine

import (
	"scutage/api"
	"scutage/code"
	"scutage/word"
)

// The kinds of steps.
const (
	kindStart = iota + 1
	kindStop
	kindAlloc
	kindNumber
	kindNothing
	kindGlobal
	kindAgain
	kindPop
	kindRead
	kindWrite
	kindSame
	kindSize
	kindRun
	kindPoll
	kindAhead
	kindBack
	kindBegin
)

// within tells whether n is from least to most.
func within(n int64, least int64, most int64) bool {
	return n >= least && n <= most
}

// refused is the answer to a step with an error.
func refused(e api.Errno) api.Answer {
	return api.Answer{Code: e}
}

// Step does a step, and tells its answer.
func (m *Machine) Step(x api.Step) api.Answer {
	if !m.made() {
		return refused(api.ErrState)
	}
	if e := code.Check(x); e != api.OK {
		return refused(e)
	}
	if e := m.turn(x); e != api.OK {
		return refused(e)
	}
	a := m.act(x)
	if a.Code == api.OK && x.Kind >= kindAlloc && x.Kind <= kindSize {
		m.lived(x.T, 1)
	}
	return a
}

// Frame does the step of which these are the octets, and tells its answer's; if they are no step's, those of the error.
func (m *Machine) Frame(b []byte) []byte {
	x, e := code.Read(b)
	a := refused(e)
	if e == api.OK {
		a = m.Step(x)
	}
	told, _ := code.Tell(a)
	return told
}

// turn is OK, if the step has no thread, or its thread is there and may do it: to start is for those that are not live, all else for those that are.
func (m *Machine) turn(x api.Step) api.Errno {
	if x.Kind == kindBack || x.Kind == kindBegin {
		return api.OK
	}
	if x.T >= m.threads {
		return api.ErrRange
	}
	live, starts := m.heap.Live(x.T), x.Kind == kindStart
	switch {
	case live && starts:
		return api.ErrState
	case !live && !starts:
		return api.ErrNone
	}
	return api.OK
}

// act does a step whose turn it is.
func (m *Machine) act(x api.Step) api.Answer {
	switch x.Kind {
	case kindStart:
		m.heap.Attach(x.T)
	case kindStop:
		m.heap.Detach(x.T)
	case kindAlloc:
		return m.alloc(x)
	case kindRun:
		return m.run(x)
	case kindPoll:
		m.heap.Poll(x.T)
	case kindAhead:
		return m.ahead(x)
	case kindBack:
		return m.back(x)
	case kindBegin:
		return m.begin()
	default:
		v, e := m.ask(x)
		return m.tell(v, e)
	}
	return api.Answer{}
}

// tell is the answer that tells v, or the error.
func (m *Machine) tell(v api.Value, e api.Errno) api.Answer {
	if e != api.OK {
		return refused(e)
	}
	named := m.named(v)
	return api.Answer{Kind: named.Kind, N: named.N}
}

// named is v as all outside know it: a reference has its object's serial, no address.
func (m *Machine) named(v api.Value) api.Value {
	if v.Kind == api.Reference {
		v.N = m.heap.Serial(int(v.N))
	}
	return v
}

// ask does a step that is about what a thread holds, and answers the value that it tells.
func (m *Machine) ask(x api.Step) (api.Value, api.Errno) {
	switch x.Kind {
	case kindPop:
		return m.pop(x)
	case kindWrite:
		return api.Value{}, m.write(x)
	case kindSame:
		return m.same(x)
	case kindSize:
		return m.size(x)
	}
	v, e := m.value(x)
	if e != api.OK {
		return api.Value{}, e
	}
	return v, m.push(x.T, v)
}

// value is what such a step lays on top of what its thread holds.
func (m *Machine) value(x api.Step) (api.Value, api.Errno) {
	switch x.Kind {
	case kindNumber:
		v := api.Value{Kind: api.Number, N: x.N}
		return v, word.Check(v)
	case kindGlobal:
		return word.Reference(m.heap.Global()), api.OK
	case kindAgain:
		return m.get(x.T, x.I)
	case kindRead:
		return m.read(x)
	}
	return api.Value{}, api.OK
}

// get is value i of thread t.
func (m *Machine) get(t int, i int) (api.Value, api.Errno) {
	values := m.heap.Roots(t)
	if i >= len(values) {
		return api.Value{}, api.ErrRange
	}
	return values[i], api.OK
}

// full tells whether thread t has no room for one more value.
func (m *Machine) full(t int) bool {
	return len(m.heap.Roots(t)) == api.MaxRoots
}

// push lays v, which may be, on top of what t holds; ErrCount, if there is no room.
func (m *Machine) push(t int, v api.Value) api.Errno {
	if !m.heap.Push(t, v) {
		return api.ErrCount
	}
	return api.OK
}

// pop takes the topmost value.
func (m *Machine) pop(x api.Step) (api.Value, api.Errno) {
	v, ok := m.heap.Pop(x.T)
	if !ok {
		return api.Value{}, api.ErrRange
	}
	return v, api.OK
}

// object is where the object begins that value I refers to.
func (m *Machine) object(x api.Step) (int, api.Errno) {
	v, e := m.get(x.T, x.I)
	if e != api.OK {
		return 0, e
	}
	if v.Kind != api.Reference {
		return 0, api.ErrKind
	}
	return int(v.N), api.OK
}

// read is what stands in field F of that object.
func (m *Machine) read(x api.Step) (api.Value, api.Errno) {
	at, e := m.object(x)
	if e != api.OK {
		return api.Value{}, e
	}
	v, ok := m.heap.Read(at, x.F)
	if !ok {
		return api.Value{}, api.ErrRange
	}
	return v, api.OK
}

// write makes that field be value J.
func (m *Machine) write(x api.Step) api.Errno {
	at, e := m.object(x)
	if e != api.OK {
		return e
	}
	if x.F >= m.heap.Fields(at) {
		return api.ErrRange
	}
	v, e := m.get(x.T, x.J)
	if e != api.OK {
		return e
	}
	m.heap.Write(x.T, at, x.F, v)
	return api.OK
}

// same is 1, if values I and J are alike; else 0.
func (m *Machine) same(x api.Step) (api.Value, api.Errno) {
	a, e := m.get(x.T, x.I)
	if e != api.OK {
		return api.Value{}, e
	}
	b, e := m.get(x.T, x.J)
	if e != api.OK {
		return api.Value{}, e
	}
	if a == b {
		return word.Number(1), api.OK
	}
	return word.Number(0), api.OK
}

// size is how many fields that object has.
func (m *Machine) size(x api.Step) (api.Value, api.Errno) {
	at, e := m.object(x)
	if e != api.OK {
		return api.Value{}, e
	}
	return word.Number(int64(m.heap.Fields(at))), api.OK
}
