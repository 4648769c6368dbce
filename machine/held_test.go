package machine_test

import (
	"math"
	"slices"
	"testing"

	"scutage/api"
	"scutage/machine"
)

const (
	least    = math.MinInt64
	greatest = math.MaxInt64
)

// usual is a config of so many pages and threads: of ten letters five may be the collector's, a unit costs 3 at most.
func usual(pages int, threads int) api.Config {
	return api.Config{Pages: pages, Threads: threads, Window: 10, Quantum: 3, Target: 500, Cap: 9, Tax: 3, Chunk: 1, Stack: 8}
}

// alike tells whether two views tell the same; nil and empty lists are one.
func alike(a api.View, b api.View) bool {
	return slices.EqualFunc(a.Roots, b.Roots, slices.Equal[[]api.Value]) && slices.EqualFunc(a.Nodes, b.Nodes, func(m api.Node, n api.Node) bool {
		return m.Serial == n.Serial && slices.Equal(m.Fields, n.Fields)
	})
}

// held is a machine, and the plain one that it is held against.
type held struct {
	*testing.T
	machine *machine.Machine
	plain   *plain
	// Between the steps that are looked at, only answers are held.
	quiet bool
}

// made is a new machine of a config that may be.
func made(t *testing.T, c api.Config) *machine.Machine {
	t.Helper()
	m, e := machine.New(c)
	if m == nil || e != api.OK {
		t.Fatalf("P26.1: New(%v) = %v, %d", c, m, e)
	}
	return m
}

// newHeld is a new one of a config that may be, whose threads from 0 on are live, as many as are said.
func newHeld(t *testing.T, c api.Config, live int) *held {
	t.Helper()
	h := &held{T: t, machine: made(t, c), plain: newPlain(c)}
	h.look("new")
	for thread := range live {
		h.do(start(thread))
	}
	return h
}

// look asks all that is told, and changes nothing.
func (h *held) look(when any) {
	h.Helper()
	m, p := h.machine, h.plain
	if got, want := m.View(), p.seen; !alike(got, want) {
		h.Fatalf("P26.2: %v, in phase %d: View() = %v; want %v", when, p.cycle.Phase(), got, want)
	}
	if got, want := m.Live(), p.graph.Live(); !slices.Equal(got, want) {
		h.Fatalf("P26.1: %v: Live() = %v; want %v", when, got, want)
	}
	if got, want := m.Objects(), p.objects(); !slices.Equal(got, want) {
		h.Fatalf("P26.1: %v: Objects() = %v; want %v", when, got, want)
	}
	for _, x := range []struct {
		name      string
		got, want int
	}{
		{"Phase", m.Phase(), p.cycle.Phase()},
		{"Free", m.Free(), p.cycle.Free()},
		{"Cycles", m.Cycles(), p.cycle.Cycles()},
		{"Units", m.Units(), p.cycle.Units()},
		{"Balance", m.Balance(), p.balance},
		{"Lost", int(m.Lost()), int(p.lost)},
	} {
		if x.got != x.want {
			h.Fatalf("P26.1: %v: %s() = %d; want %d", when, x.name, x.got, x.want)
		}
	}
	h.lookCounts(when)
}

// lookCounts asks Count, of those who are no threads too.
func (h *held) lookCounts(when any) {
	h.Helper()
	for _, thread := range []int{0, 1, 2, 3, 4, 5, 6, 7, 8, 9, 256, -1, least, greatest, 1 << 32} {
		if got, want := h.machine.Count(thread), h.plain.count(thread); got != want {
			h.Fatalf("P26.1: %v: Count(%d) = %d; want %d", when, thread, got, want)
		}
	}
}

// step does one, and looks.
func (h *held) step(x api.Step) api.Answer {
	h.Helper()
	phase := h.plain.cycle.Phase()
	want := h.plain.do(x)
	if got := h.machine.Step(x); got != want {
		h.Fatalf("P26.1: in phase %d, Step(%v) = %v; want %v", phase, x, got, want)
	}
	if !h.quiet {
		h.look(x)
	}
	return want
}

// do does steps, one behind the other, that have no error.
func (h *held) do(l ...api.Step) {
	h.Helper()
	for _, x := range l {
		if a := h.step(x); a.Code != api.OK {
			h.Fatalf("P26.1: Step(%v) = %v", x, a)
		}
	}
}

// wants does a step, whose answer the test itself tells.
func (h *held) wants(x api.Step, want api.Answer) {
	h.Helper()
	if got := h.step(x); got != want {
		h.Fatalf("P26.1: in phase %d, Step(%v) = %v; want %v", h.plain.cycle.Phase(), x, got, want)
	}
}

// told is all that a machine tells but its view.
type told struct {
	phase, free, cycles, units, balance int
	lost                                int64
	counts                              [8]int
}

func (h *held) told() told {
	m := h.machine
	x := told{m.Phase(), m.Free(), m.Cycles(), m.Units(), m.Balance(), m.Lost(), [8]int{}}
	for t := range x.counts {
		x.counts[t] = m.Count(t)
	}
	return x
}

// errs does steps that have that error alone, and behind which all is as ahead.
func (h *held) errs(e api.Errno, l ...api.Step) {
	h.Helper()
	for _, x := range l {
		was, view, objects := h.told(), h.machine.View(), h.machine.Objects()
		h.wants(x, refuses(e))
		if now := h.told(); now != was {
			h.Fatalf("P26.1: behind Step(%v), an error, it is %v; it was %v", x, now, was)
		}
		if now := h.machine.View(); !alike(now, view) || !slices.Equal(h.machine.Objects(), objects) {
			h.Fatalf("P26.1: behind Step(%v), an error, View() = %v; it was %v", x, now, view)
		}
	}
}

// fill lets t hold so many values: what it has, and numbers.
func (h *held) fill(t int, values int) {
	h.Helper()
	for h.plain.values(t) < values {
		h.do(number(t, int64(h.plain.values(t))))
	}
}

// empty lets t hold no more than so many values.
func (h *held) empty(t int, values int) {
	h.Helper()
	for h.plain.values(t) > values {
		h.do(pop(t))
	}
}

// holds wants t to hold these values.
func (h *held) holds(t int, want ...api.Value) {
	h.Helper()
	if got := h.machine.View().Roots[t]; !slices.Equal(got, want) {
		h.Fatalf("P26.1: thread %d holds %v; want %v", t, got, want)
	}
}

// counts wants so many of t's last letters to be the collector's.
func (h *held) counts(t int, want int) {
	h.Helper()
	if got := h.machine.Count(t); got != want {
		h.Fatalf("P26.1: Count(%d) = %d; want %d", t, got, want)
	}
}

// is wants phase, balance and units to be those.
func (h *held) is(phase int, balance int, units int) {
	h.Helper()
	if m := h.machine; m.Phase() != phase || m.Balance() != balance || m.Units() != units {
		h.Fatalf("P26.1: Phase() = %d, Balance() = %d, Units() = %d; want %d, %d, %d", m.Phase(), m.Balance(), m.Units(), phase, balance, units)
	}
}

// kept wants there to be just these objects.
func (h *held) kept(want ...int64) {
	h.Helper()
	if got := h.machine.Objects(); !slices.Equal(got, want) {
		h.Fatalf("P26.1: Objects() = %v; want %v", got, want)
	}
}

// polls lets all live threads poll.
func (h *held) polls() {
	h.Helper()
	for _, t := range h.plain.graph.Live() {
		h.do(poll(t))
	}
}

// to leads from phase to phase by begin, polls and back, until it is that one.
func (h *held) to(phase int) {
	h.Helper()
	// A round leads to another phase, but where a trace finds more, or a sweep is longer.
	for range 200 {
		switch p := h.plain.cycle.Phase(); {
		case p == phase:
			return
		case p == idle:
			h.do(begin())
		case p == tracing || p == sweeping:
			h.do(back(mostTicks))
		default:
			h.polls()
		}
	}
	h.Fatalf("not in phase %d, but in phase %d", phase, h.plain.cycle.Phase())
}

// rest lets each live thread have a window of its own letters.
func (h *held) rest() {
	h.Helper()
	for _, t := range h.plain.graph.Live() {
		h.do(run(t, int64(h.plain.config.Window)))
	}
}

// occupy lets thread t hold large objects, of four pages or of one, until so many pages are free.
func (h *held) occupy(t int, free int) {
	h.Helper()
	for h.plain.cycle.Free() > free {
		if h.plain.cycle.Free() >= free+4 {
			h.do(alloc(t, 127))
		} else {
			h.do(alloc(t, 31))
		}
	}
}
