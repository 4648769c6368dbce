package machine_test

import (
	"slices"
	"testing"

	"scutage/api"
	"scutage/config"
	"scutage/machine"
)

// field is a config's field at that place, from 1 on.
func field(c *api.Config, place int) *int {
	return []*int{nil, &c.Pages, &c.Threads, &c.Window, &c.Quantum, &c.Target, &c.Cap, &c.Tax, &c.Chunk, &c.Stack, &c.Trigger}[place]
}

// ends are the least and the greatest number that each field may be, as chapter 2 writes them out.
func ends() [11][2]int {
	return [11][2]int{{}, {2, 64}, {1, 8}, {1, 64}, {1, 16}, {0, 1000}, {0, 65535}, {0, 64}, {1, 16}, {1, 256}, {0, 64}}
}

// ample is a config of which each field may be any number, but for Target.
func ample() api.Config {
	return api.Config{Pages: 3, Threads: 2, Window: 64, Quantum: 1, Target: 0, Cap: 9, Tax: 3, Chunk: 3, Stack: 3, Trigger: 2}
}

// not wants that there is no machine of that config.
func not(t *testing.T, c api.Config) {
	t.Helper()
	if m, e := machine.New(c); m != nil || e != api.ErrConfig || config.Check(c) != e {
		t.Fatalf("P26.1: New(%v) = %v, %d; want nil, %d", c, m, e, api.ErrConfig)
	}
}

// TestNewWrong: configs that may not be, for each field below it and above it.
func TestNewWrong(t *testing.T) {
	not(t, api.Config{})
	for place := 1; place <= 10; place++ {
		lo, hi := ends()[place][0], ends()[place][1]
		for _, n := range []int{lo - 1, lo - 2, lo - 100, hi + 1, hi + 2, hi + 100, lo - 1<<32, hi + 1<<32, least, greatest} {
			c := ample()
			*field(&c, place) = n
			not(t, c)
			// Another one is wrong besides.
			*field(&c, place%10+1) = -1
			not(t, c)
		}
	}
	// A window that leaves too little.
	for _, c := range []api.Config{
		{Pages: 4, Threads: 1, Window: 1, Quantum: 1, Target: 1, Chunk: 1, Stack: 1},
		{Pages: 4, Threads: 1, Window: 10, Quantum: 3, Target: 701, Chunk: 1, Stack: 1},
		{Pages: 4, Threads: 1, Window: 64, Quantum: 1, Target: 1000, Chunk: 1, Stack: 1},
		{Pages: 4, Threads: 1, Window: 15, Quantum: 16, Target: 0, Chunk: 1, Stack: 1},
	} {
		not(t, c)
	}
}

// fresh wants a new machine of that config to be as the chapter says, and a cycle of it to go as the config tells.
func fresh(t *testing.T, c api.Config) {
	t.Helper()
	m := made(t, c)
	v := m.View()
	if len(v.Roots) != c.Threads || slices.ContainsFunc(v.Roots, func(l []api.Value) bool { return len(l) > 0 }) {
		t.Fatalf("P26.1: of New(%v), Roots = %v", c, v.Roots)
	}
	if len(v.Nodes) != 1 || v.Nodes[0].Serial != 0 || !slices.Equal(v.Nodes[0].Fields, make([]api.Value, 4)) {
		t.Fatalf("P26.1: of New(%v), Nodes = %v", c, v.Nodes)
	}
	if len(m.Live()) != 0 || !slices.Equal(m.Objects(), []int64{0}) || m.Free() != c.Pages-1 {
		t.Fatalf("P26.1: of New(%v), Live() = %v, Objects() = %v, Free() = %d", c, m.Live(), m.Objects(), m.Free())
	}
	if m.Phase() != 0 || m.Balance() != 0 || m.Lost() != 0 || m.Cycles() != 0 || m.Units() != 0 || m.Count(0) != 0 {
		t.Fatalf("P26.1: New(%v) is not idle", c)
	}
	h := newHeld(t, c, c.Threads)
	h.errs(api.ErrRange, start(c.Threads))
	for thread := range c.Threads {
		h.errs(api.ErrState, start(thread))
	}
	h.whole(c)
}

// whole is a cycle: its units stand in the bank, as far as there is room.
func (h *held) whole(c api.Config) {
	h.Helper()
	h.to(tracing)
	h.errs(api.ErrRange, costs(ahead(0, 1), c.Quantum+1), costs(alloc(0, 127), c.Quantum+1))
	// The global object has four fields.
	units := (4 + c.Chunk - 1) / c.Chunk
	h.wants(back(64), worked(units))
	h.to(sweeping)
	h.wants(costs(ahead(0, 1), c.Quantum), worked(1))
	h.wants(back(64), worked(c.Pages-1))
	units += c.Pages
	h.is(idle, min(units, c.Cap), units)
	h.counts(0, c.Quantum)
	if got, want := h.machine.Lost(), int64(max(0, units-c.Cap)); got != want {
		h.Fatalf("P26.1: Lost() = %d; want %d", got, want)
	}
	h.errs(api.ErrTax, taxes(c)...)
}

// taxes are steps of thread 0 whose work its time, which had a unit of the greatest cost, does not admit; none, if a window leaves room for all.
func taxes(c api.Config) []api.Step {
	n := most(c) / c.Quantum
	if (n+1)*c.Quantum > c.Window {
		return nil
	}
	return []api.Step{costs(ahead(0, int64(n)), c.Quantum)}
}

// TestNewEnds: configs that may be, each field at its ends, and all of them.
func TestNewEnds(t *testing.T) {
	for place := 1; place <= 10; place++ {
		for _, n := range ends()[place] {
			c := ample()
			*field(&c, place) = n
			if place == 5 && n != 0 {
				// Of the window's 64 ticks one must be left.
				c.Target = 984
			}
			fresh(t, c)
		}
	}
	for threads := 1; threads <= 8; threads++ {
		for quantum := 1; quantum <= 16; quantum++ {
			fresh(t, api.Config{Pages: 2, Threads: threads, Window: quantum, Quantum: quantum, Chunk: 1, Stack: 1})
			fresh(t, api.Config{Pages: 2 + quantum, Threads: threads, Window: 64, Quantum: quantum, Target: 750, Cap: 3, Chunk: 1 + quantum%4, Stack: 1})
		}
	}
	fresh(t, api.Config{Pages: 2, Threads: 1, Window: 1, Quantum: 1, Chunk: 1, Stack: 1})
	fresh(t, api.Config{Pages: 64, Threads: 8, Window: 64, Quantum: 16, Target: 750, Cap: 65535, Tax: 64, Chunk: 16, Stack: 256, Trigger: 64})
	fresh(t, config.Usual())
}

// TestNewApart: one machine knows nothing of another one of the same config.
func TestNewApart(t *testing.T) {
	one, two := newHeld(t, usual(5, 2), 1), newHeld(t, usual(5, 2), 0)
	one.do(alloc(0, 3), global(0), write(0, 1, 2, 0), begin())
	two.look("another one has an object")
	two.do(start(1), alloc(1, 2), start(0))
	one.look("another one has threads")
	one.to(sweeping)
	one.do(ahead(0, 2))
	two.look("another one is swept")
	two.to(tracing)
	two.do(back(2))
	one.look("another one has a bank")
}

// TestExamples: the document's examples of the whole that speak of a machine.
func TestExamples(t *testing.T) {
	h := newHeld(t, usual(8, 2), 0)
	if v := h.machine.View(); len(v.Nodes) != 1 || len(v.Nodes[0].Fields) != 4 || h.machine.Free() != 7 {
		t.Errorf("P26.1: a new machine has %v, and %d free pages", v, h.machine.Free())
	}
	h.wants(start(0), api.Answer{})
	h.wants(alloc(0, 3), refers(1))
	h.wants(begin(), api.Answer{})
	h.is(on, 0, 0)
	h.wants(alloc(0, 3), refers(2))
	h.wants(poll(0), api.Answer{})
	h.is(scan, 0, 0)
	h.wants(alloc(0, 3), refers(3))
	h.wants(poll(0), api.Answer{})
	h.is(tracing, 0, 0)
	h.wants(alloc(0, 3), refers(4))
	two := newHeld(t, usual(8, 2), 2)
	two.wants(begin(), api.Answer{})
	two.wants(poll(0), api.Answer{})
	two.is(on, 0, 0)
	none := newHeld(t, usual(8, 2), 0)
	none.wants(begin(), api.Answer{})
	none.is(tracing, 0, 0)
}

// TestExampleOverwritten: a reference that is overwritten in phase 3: its object stays in this cycle, and goes in the next one.
func TestExampleOverwritten(t *testing.T) {
	h := newHeld(t, usual(8, 1), 1)
	h.do(alloc(0, 1), global(0), write(0, 1, 3, 0), pop(0), pop(0))
	h.to(tracing)
	h.do(global(0), nothing(0), write(0, 0, 3, 1))
	h.to(idle)
	h.kept(0, 1)
	if len(h.machine.View().Nodes) != 1 {
		t.Errorf("P26.1: View() = %v", h.machine.View())
	}
	h.do(begin())
	h.to(idle)
	h.kept(0)
}

// TestNone: of nil, or one that New did not make: ErrState, 0, nothing, zero, again and again.
func TestNone(t *testing.T) {
	var l []api.Step
	for kind := -1; kind <= lastKind+1; kind++ {
		l = append(l, api.Step{Kind: kind}, api.Step{Kind: kind, T: 1, I: 2, F: 3, J: 4, Cost: 1, N: 1}, api.Step{Kind: kind, T: 8, N: 64, Cost: 1}, api.Step{Kind: kind, N: 1}, api.Step{Kind: kind, T: -1}, api.Step{Kind: kind, T: greatest, I: least, F: least, J: greatest, Cost: least, N: least})
		for thread := range 2 {
			l = append(l, good(kind, thread))
		}
	}
	for name, m := range map[string]*machine.Machine{"nil": nil, "one that New did not make": {}, "another one": new(machine.Machine)} {
		for range 2 {
			for _, x := range l {
				if got := m.Step(x); got != refuses(api.ErrState) {
					t.Fatalf("P26.1: of %s, Step(%v) = %v", name, x, got)
				}
			}
			if v := m.View(); len(v.Roots) != 0 || len(v.Nodes) != 0 {
				t.Fatalf("P26.1: of %s, View() = %v", name, v)
			}
			if len(m.Live()) != 0 || len(m.Objects()) != 0 {
				t.Fatalf("P26.1: of %s, Live() = %v, Objects() = %v", name, m.Live(), m.Objects())
			}
			if m.Phase() != 0 || m.Balance() != 0 || m.Lost() != 0 || m.Free() != 0 || m.Cycles() != 0 || m.Units() != 0 {
				t.Fatalf("P26.1: of %s, a number is not 0", name)
			}
			for _, thread := range []int{least, -1, 0, 1, 7, 8, greatest} {
				if got := m.Count(thread); got != 0 {
					t.Fatalf("P26.1: of %s, Count(%d) = %d", name, thread, got)
				}
			}
		}
	}
}
