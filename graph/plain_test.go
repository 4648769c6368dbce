package graph_test

import (
	"maps"
	"slices"

	"scutage/api"
	"scutage/code"
)

const (
	// mostRoots, mostFields and mostTicks are as the chapters write them out.
	mostRoots  = 16
	mostFields = 127
	mostTicks  = 64
	mostNumber = 1 << 40
	// The last kind with a thread, and the last one of all.
	lastOfThreads = 15
	lastKind      = 17
)

// The steps, as chapter 24 counts them; of alloc and ahead each unit costs 1.
func start(t int) api.Step           { return api.Step{Kind: 1, T: t} }
func stop(t int) api.Step            { return api.Step{Kind: 2, T: t} }
func alloc(t int, n int64) api.Step  { return api.Step{Kind: 3, T: t, N: n, Cost: 1} }
func number(t int, n int64) api.Step { return api.Step{Kind: 4, T: t, N: n} }
func nothing(t int) api.Step         { return api.Step{Kind: 5, T: t} }
func global(t int) api.Step          { return api.Step{Kind: 6, T: t} }
func again(t int, i int) api.Step    { return api.Step{Kind: 7, T: t, I: i} }
func pop(t int) api.Step             { return api.Step{Kind: 8, T: t} }
func read(t int, i int, f int) api.Step {
	return api.Step{Kind: 9, T: t, I: i, F: f}
}
func write(t int, i int, f int, j int) api.Step {
	return api.Step{Kind: 10, T: t, I: i, F: f, J: j}
}
func same(t int, i int, j int) api.Step { return api.Step{Kind: 11, T: t, I: i, J: j} }
func size(t int, i int) api.Step        { return api.Step{Kind: 12, T: t, I: i} }
func run(t int, n int64) api.Step       { return api.Step{Kind: 13, T: t, N: n} }
func poll(t int) api.Step               { return api.Step{Kind: 14, T: t} }
func ahead(t int, n int64) api.Step     { return api.Step{Kind: 15, T: t, N: n, Cost: 1} }
func back(n int64) api.Step             { return api.Step{Kind: 16, N: n} }
func begin() api.Step                   { return api.Step{Kind: 17} }

// costs is x, at that cost.
func costs(x api.Step, cost int) api.Step {
	x.Cost = cost
	return x
}

// The values, and what a step is answered that tells them; of nothing, or of a step that tells no value, it is api.Answer{}.
func num(n int64) api.Value     { return api.Value{Kind: 1, N: n} }
func ref(n int64) api.Value     { return api.Value{Kind: 2, N: n} }
func tells(n int64) api.Answer  { return api.Answer{Kind: 1, N: n} }
func refers(n int64) api.Answer { return api.Answer{Kind: 2, N: n} }

// refuses is what a step is answered that has that error.
func refuses(e api.Errno) api.Answer { return api.Answer{Code: e} }

// plain is what a graph must be, in plain lists.
type plain struct {
	quantum int
	live    []bool
	values  [][]api.Value
	// The objects' fields, by serial.
	objects [][]api.Value
}

// newPlain is a new graph's, of a config that may be.
func newPlain(c api.Config) *plain {
	return &plain{
		quantum: c.Quantum,
		live:    make([]bool, c.Threads),
		values:  make([][]api.Value, c.Threads),
		objects: [][]api.Value{make([]api.Value, 4)},
	}
}

// copied is the same, of which nothing is shared.
func (m *plain) copied() *plain {
	return &plain{quantum: m.quantum, live: slices.Clone(m.live), values: copied(m.values), objects: copied(m.objects)}
}

func copied(l [][]api.Value) [][]api.Value {
	var c [][]api.Value
	for _, x := range l {
		c = append(c, slices.Clone(x))
	}
	return c
}

// value is value i of thread t; false: there is none.
func (m *plain) value(t int, i int) (api.Value, bool) {
	if i >= len(m.values[t]) {
		return api.Value{}, false
	}
	return m.values[t][i], true
}

// object is the serial that value i of thread t refers to; -1: it refers to none.
func (m *plain) object(t int, i int) int64 {
	if v, ok := m.value(t, i); ok && v.Kind == 2 {
		return v.N
	}
	return -1
}

// fields is how many the object has that value i of thread t refers to; 0, if it refers to none.
func (m *plain) fields(t int, i int) int {
	if o := m.object(t, i); o >= 0 {
		return len(m.objects[o])
	}
	return 0
}

// fault is an error, if it is found.
type fault struct {
	found bool
	code  api.Errno
}

// first is the first error that is found.
func first(l ...fault) api.Errno {
	for _, x := range l {
		if x.found {
			return x.code
		}
	}
	return api.OK
}

// wrong is a step's error.
func (m *plain) wrong(x api.Step, no api.Errno) api.Errno {
	if e := code.Check(x); e != api.OK {
		return e
	}
	if x.Kind > lastOfThreads {
		return m.own(x, no)
	}
	if x.T >= len(m.live) {
		return api.ErrRange
	}
	if m.live[x.T] != (x.Kind != 1) {
		return first(fault{m.live[x.T], api.ErrState}, fault{true, api.ErrNone})
	}
	return m.own(x, no)
}

// own is the error of a step that may be, whose thread may do it.
func (m *plain) own(x api.Step, no api.Errno) api.Errno {
	full := fault{x.T < len(m.live) && len(m.values[x.T]) == mostRoots, api.ErrCount}
	refused := fault{no != 0, no}
	cost := fault{x.Cost < 1 || x.Cost > m.quantum, api.ErrRange}
	ticks := fault{x.N < 1 || x.N > mostTicks, api.ErrRange}
	switch x.Kind {
	case 3:
		return first(fault{x.N < 0 || x.N > mostFields, api.ErrRange}, cost, full, refused)
	case 4:
		return first(fault{x.N < -mostNumber || x.N >= mostNumber, api.ErrRange}, full)
	case 5, 6:
		return first(full)
	case 13, 16:
		return first(ticks)
	case 15:
		return first(ticks, cost, refused)
	case 17:
		return first(refused)
	case 7, 8, 9, 10, 11, 12:
		return m.ofValues(x, full)
	}
	return api.OK
}

// ofValues is the error of a step that asks for a thread's values.
func (m *plain) ofValues(x api.Step, full fault) api.Errno {
	n := len(m.values[x.T])
	i, j := fault{x.I >= n, api.ErrRange}, fault{x.J >= n, api.ErrRange}
	kind := fault{m.object(x.T, x.I) < 0, api.ErrKind}
	field := fault{x.F >= m.fields(x.T, x.I), api.ErrRange}
	switch x.Kind {
	case 7:
		return first(i, full)
	case 8:
		return first(fault{n == 0, api.ErrRange})
	case 9:
		return first(i, kind, field, full)
	case 10:
		return first(i, kind, field, j)
	case 11:
		return first(i, j)
	}
	return first(i, kind)
}

// do is what a step is answered.
func (m *plain) do(x api.Step, no api.Errno) api.Answer {
	if e := m.wrong(x, no); e != api.OK {
		return refuses(e)
	}
	v := m.done(x)
	return api.Answer{Kind: v.Kind, N: v.N}
}

// done does a step without an error, and answers the value that it tells.
func (m *plain) done(x api.Step) api.Value {
	switch x.Kind {
	case 1, 2:
		m.live[x.T], m.values[x.T] = x.Kind == 1, nil
	case 3:
		m.objects = append(m.objects, make([]api.Value, x.N))
		return m.push(x.T, ref(int64(len(m.objects)-1)))
	case 4:
		return m.push(x.T, num(x.N))
	case 5:
		return m.push(x.T, api.Value{})
	case 6:
		return m.push(x.T, ref(0))
	case 7:
		return m.push(x.T, m.values[x.T][x.I])
	case 8:
		top := len(m.values[x.T]) - 1
		v := m.values[x.T][top]
		m.values[x.T] = slices.Clone(m.values[x.T][:top])
		return v
	case 9:
		return m.push(x.T, m.objects[m.object(x.T, x.I)][x.F])
	case 10:
		m.objects[m.object(x.T, x.I)][x.F] = m.values[x.T][x.J]
	case 11:
		a, b := m.values[x.T][x.I], m.values[x.T][x.J]
		if a.Kind == b.Kind && a.N == b.N {
			return num(1)
		}
		return num(0)
	case 12:
		return num(int64(m.fields(x.T, x.I)))
	}
	return api.Value{}
}

func (m *plain) push(t int, v api.Value) api.Value {
	m.values[t] = append(slices.Clone(m.values[t]), v)
	return v
}

// alive are the live threads, rising.
func (m *plain) alive() []int {
	var l []int
	for t, live := range m.live {
		if live {
			l = append(l, t)
		}
	}
	return l
}

// reached are the serials of the objects that can be reached, rising.
func (m *plain) reached() []int64 {
	met := map[int64]bool{0: true}
	lists := append(slices.Clone(m.values), m.objects[0])
	for i := 0; i < len(lists); i++ {
		for _, v := range lists[i] {
			if v.Kind == 2 && !met[v.N] {
				met[v.N] = true
				lists = append(lists, m.objects[v.N])
			}
		}
	}
	return slices.Sorted(maps.Keys(met))
}

// view is what View must tell.
func (m *plain) view() api.View {
	v := api.View{Roots: copied(m.values)}
	for _, serial := range m.reached() {
		v.Nodes = append(v.Nodes, api.Node{Serial: serial, Fields: slices.Clone(m.objects[serial])})
	}
	return v
}
