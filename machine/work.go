package machine

import (
	"scutage/api"
	"scutage/word"
)

// The phases in which there is work.
const (
	phaseTrace = 3
	phaseSweep = 5
)

// ticks tells whether a step may have N letters, or units.
func ticks(x api.Step) bool {
	return within(x.N, 1, api.MaxTicks)
}

// costs tells whether a unit can cost as much as the step says.
func (m *Machine) costs(x api.Step) bool {
	return x.Cost >= 1 && x.Cost <= m.quantum
}

// work does units, at most so many, until there is none any more, and answers how many.
func (m *Machine) work(units int) int {
	done := 0
	for done < units && m.heap.Unit() {
		done++
	}
	return done
}

// alloc makes an object with N fields, to which its thread holds a reference then.
func (m *Machine) alloc(x api.Step) api.Answer {
	if !within(x.N, 0, api.MaxFields) || !m.costs(x) {
		return refused(api.ErrRange)
	}
	// Asked before anything is paid or made.
	if m.full(x.T) {
		return refused(api.ErrCount)
	}
	if at, ok := m.heap.Fast(x.T, int(x.N)); ok {
		return m.hold(x.T, at)
	}
	return m.slow(x)
}

// hold lets t hold a reference to the new object at that address, for which there is room.
func (m *Machine) hold(t int, at int) api.Answer {
	v := word.Reference(at)
	return m.tell(v, m.push(t, v))
}

// slow makes an object for which its thread may need a page: what is due for that is paid ahead, and stays paid if there is no page.
func (m *Machine) slow(x api.Step) api.Answer {
	if m.Free() < m.trigger {
		// Where one is on already, none begins.
		m.heap.Begin()
	}
	paid := m.pay(x)
	if paid.Code != api.OK {
		return paid
	}
	at, e := m.heap.Slow(x.T, int(x.N))
	a := refused(e)
	if e == api.OK {
		a = m.hold(x.T, at)
	}
	a.Done, a.Credit = paid.Done, paid.Credit
	return a
}

// pay lets the bank, and for the rest the step's thread, pay the tax, where one is due; nothing is paid, if the thread's time does not admit the rest.
func (m *Machine) pay(x api.Step) api.Answer {
	if p := m.Phase(); p != phaseTrace && p != phaseSweep {
		return api.Answer{}
	}
	credit := m.credit(m.tax)
	rest := m.tax - credit
	if !m.admits(x.T, rest, x.Cost) {
		return refused(api.ErrTax)
	}
	m.spend(credit)
	done := m.work(rest)
	m.charge(x.T, done, x.Cost)
	return api.Answer{Done: done, Credit: credit}
}

// run lets the step's thread have N ticks of its own.
func (m *Machine) run(x api.Step) api.Answer {
	if !ticks(x) {
		return refused(api.ErrRange)
	}
	m.lived(x.T, int(x.N))
	return api.Answer{}
}

// ahead does N units in the step's thread's time, for the bank.
func (m *Machine) ahead(x api.Step) api.Answer {
	if !ticks(x) || !m.costs(x) {
		return refused(api.ErrRange)
	}
	if !m.admits(x.T, int(x.N), x.Cost) {
		return refused(api.ErrTax)
	}
	a := m.back(x)
	m.charge(x.T, a.Done, x.Cost)
	return a
}

// back does N units in nobody's time, for the bank.
func (m *Machine) back(x api.Step) api.Answer {
	if !ticks(x) {
		return refused(api.ErrRange)
	}
	done := m.work(int(x.N))
	m.save(done)
	return api.Answer{Done: done}
}

// begin makes a cycle begin.
func (m *Machine) begin() api.Answer {
	if !m.heap.Begin() {
		return refused(api.ErrState)
	}
	return api.Answer{}
}
