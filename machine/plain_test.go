package machine_test

import (
	"slices"

	"scutage/api"
	"scutage/cycle"
	"scutage/graph"
)

// The phases, as chapter 23 counts them.
const (
	idle = iota
	on
	scan
	tracing
	drain
	sweeping
)

const (
	// mostRoots, mostFields, mostTicks and mostNumber are as the chapters write them out.
	mostRoots  = 16
	mostFields = 127
	mostTicks  = 64
	mostNumber = 1 << 40
	// The last kind with a thread, and the last one of all.
	lastOfThreads = 15
	lastKind      = 17
	// asked is no error of any chapter's: a graph answers it where it asks what a collector says.
	asked api.Errno = 77
)

// The steps, as chapter 24 counts them; of alloc and ahead each unit costs 1.
func start(t int) api.Step           { return api.Step{Kind: 1, T: t} }
func stop(t int) api.Step            { return api.Step{Kind: 2, T: t} }
func alloc(t int, n int64) api.Step  { return api.Step{Kind: 3, T: t, N: n, Cost: 1} }
func number(t int, n int64) api.Step { return api.Step{Kind: 4, T: t, N: n} }
func nothing(t int) api.Step         { return api.Step{Kind: 5, T: t} }
func global(t int) api.Step          { return api.Step{Kind: 6, T: t} }
func again(t int, i int) api.Step    { return api.Step{Kind: 7, T: t, I: i} }
func pop(t int) api.Step             { return api.Step{Kind: 8, T: t} }
func read(t int, i int, f int) api.Step {
	return api.Step{Kind: 9, T: t, I: i, F: f}
}
func write(t int, i int, f int, j int) api.Step {
	return api.Step{Kind: 10, T: t, I: i, F: f, J: j}
}
func same(t int, i int, j int) api.Step { return api.Step{Kind: 11, T: t, I: i, J: j} }
func size(t int, i int) api.Step        { return api.Step{Kind: 12, T: t, I: i} }
func run(t int, n int64) api.Step       { return api.Step{Kind: 13, T: t, N: n} }
func poll(t int) api.Step               { return api.Step{Kind: 14, T: t} }
func ahead(t int, n int64) api.Step     { return api.Step{Kind: 15, T: t, N: n, Cost: 1} }
func back(n int64) api.Step             { return api.Step{Kind: 16, N: n} }
func begin() api.Step                   { return api.Step{Kind: 17} }

// costs is x, at that cost.
func costs(x api.Step, cost int) api.Step {
	x.Cost = cost
	return x
}

// The values; nothing is api.Value{}.
func num(n int64) api.Value { return api.Value{Kind: 1, N: n} }
func ref(n int64) api.Value { return api.Value{Kind: 2, N: n} }

// What steps are answered: that tell a number, or a reference; that worked, and had credit besides; or that have an error. Of nothing, or of a step that tells nothing, it is api.Answer{}.
func tells(n int64) api.Answer   { return api.Answer{Kind: 1, N: n} }
func refers(n int64) api.Answer  { return api.Answer{Kind: 2, N: n} }
func worked(done int) api.Answer { return api.Answer{Done: done} }
func taxed(a api.Answer, done int, credit int) api.Answer {
	a.Done, a.Credit = done, credit
	return a
}
func refuses(e api.Errno) api.Answer { return api.Answer{Code: e} }

// plain is what a machine must be: a graph tells what is answered, and what is seen; a collector of its own is told what the chapter says; letters stand in lists, and the bank is numbers.
type plain struct {
	config api.Config
	graph  *graph.Graph
	cycle  *cycle.Collector
	// Each thread's letters; true: the collector's.
	letters [][]bool
	balance int
	lost    int64
	// The graph's view behind the last step.
	seen api.View
}

// newPlain is a new machine's, of a config that may be.
func newPlain(c api.Config) *plain {
	m := &plain{config: c, letters: make([][]bool, c.Threads)}
	m.graph, _ = graph.New(c)
	m.cycle, _ = cycle.New(c)
	m.seen = m.graph.View()
	return m
}

// do is what a step is answered.
func (m *plain) do(x api.Step) api.Answer {
	a := m.graph.Do(x, asked)
	switch {
	case a.Code == asked:
		says := m.say(x)
		a = m.graph.Do(x, says.Code)
		a.Done, a.Credit = says.Done, says.Credit
	case a.Code == api.OK:
		a.Done = m.follow(x)
	}
	if a.Code == api.OK && x.Kind >= 3 && x.Kind <= 12 {
		m.spend(x.T, 1, false)
	}
	m.seen = m.graph.View()
	return a
}

// say is what a collector says of a step that asks it, and which the graph has nothing against.
func (m *plain) say(x api.Step) api.Answer {
	switch x.Kind {
	case 3:
		return m.make(x)
	case 15:
		if !m.admits(x.T, int(x.N)*x.Cost) {
			return refuses(api.ErrTax)
		}
		done := m.units(int(x.N))
		m.spend(x.T, done*x.Cost, true)
		m.put(done)
		return worked(done)
	}
	if m.cycle.Phase() != idle {
		return refuses(api.ErrState)
	}
	m.cycle.Begin()
	return api.Answer{}
}

// make makes an object, the fast way, or the slow one.
func (m *plain) make(x api.Step) api.Answer {
	n := int(x.N)
	if a, ok := m.cycle.Fast(x.T, n); ok {
		m.cycle.Push(x.T, ref(int64(a)))
		return api.Answer{}
	}
	if m.cycle.Phase() == idle && m.cycle.Free() < m.config.Trigger {
		m.cycle.Begin()
	}
	var says api.Answer
	if p := m.cycle.Phase(); p == tracing || p == sweeping {
		credit := min(m.balance, m.config.Tax)
		if !m.admits(x.T, (m.config.Tax-credit)*x.Cost) {
			return refuses(api.ErrTax)
		}
		m.balance -= credit
		done := m.units(m.config.Tax - credit)
		m.spend(x.T, done*x.Cost, true)
		says = taxed(says, done, credit)
	}
	a, e := m.cycle.Slow(x.T, n)
	if e == api.OK {
		m.cycle.Push(x.T, ref(int64(a)))
	}
	says.Code = e
	return says
}

// follow does a step that has no error, and answers what was done of a collector's work.
func (m *plain) follow(x api.Step) int {
	l := m.cycle.Roots(x.T)
	switch x.Kind {
	case 1:
		m.cycle.Attach(x.T)
	case 2:
		m.cycle.Detach(x.T)
	case 4:
		m.cycle.Push(x.T, num(x.N))
	case 5:
		m.cycle.Push(x.T, api.Value{})
	case 6:
		m.cycle.Push(x.T, ref(int64(m.cycle.Global())))
	case 7:
		m.cycle.Push(x.T, l[x.I])
	case 8:
		m.cycle.Pop(x.T)
	case 9:
		v, _ := m.cycle.Read(int(l[x.I].N), x.F)
		m.cycle.Push(x.T, v)
	case 10:
		m.cycle.Write(x.T, int(l[x.I].N), x.F, l[x.J])
	case 13:
		m.spend(x.T, int(x.N), false)
	case 14:
		m.cycle.Poll(x.T)
	case 16:
		done := m.units(int(x.N))
		m.put(done)
		return done
	}
	return 0
}

// units works so many, until there is none any more, and answers how many.
func (m *plain) units(n int) int {
	for done := range n {
		if !m.cycle.Unit() {
			return done
		}
	}
	return n
}

// put is what the bank is given.
func (m *plain) put(n int) {
	room := m.config.Cap - m.balance
	m.balance += min(n, room)
	m.lost += int64(max(0, n-room))
}

// spend lets letters come.
func (m *plain) spend(t int, n int, work bool) {
	m.letters[t] = append(m.letters[t], slices.Repeat([]bool{work}, n)...)
}

// most is how many letters of a window may be the collector's.
func most(c api.Config) int {
	return c.Window * (1000 - c.Target) / 1000
}

// admits tells whether n letters of the collector may come.
func (m *plain) admits(t int, n int) bool {
	return n <= most(m.config) && m.lastly(append(slices.Clone(m.letters[t]), slices.Repeat([]bool{true}, n)...)) <= most(m.config)
}

// lastly is how many of the last letters, as many as a window has, are the collector's.
func (m *plain) lastly(l []bool) int {
	n := 0
	for _, work := range l[max(0, len(l)-m.config.Window):] {
		if work {
			n++
		}
	}
	return n
}

// count is what Count must tell.
func (m *plain) count(t int) int {
	if t < 0 || t >= len(m.letters) {
		return 0
	}
	return m.lastly(m.letters[t])
}

// objects are all serials, rising.
func (m *plain) objects() []int64 {
	var l []int64
	for _, a := range m.cycle.Objects() {
		l = append(l, m.cycle.Serial(a))
	}
	slices.Sort(l)
	return l
}

// fields are those of the object that value i of thread t refers to; -1: it refers to none.
func (m *plain) fields(t int, i int) int {
	l := m.cycle.Roots(t)
	if i >= len(l) || l[i].Kind != api.Reference {
		return -1
	}
	return m.cycle.Fields(int(l[i].N))
}

// values is how many thread t holds.
func (m *plain) values(t int) int {
	return len(m.cycle.Roots(t))
}
