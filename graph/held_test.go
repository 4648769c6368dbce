package graph_test

import (
	"math"
	"slices"
	"testing"

	"scutage/api"
	"scutage/graph"
)

const (
	least    = math.MinInt64
	greatest = math.MaxInt64
)

// usual is a config of so many threads; what a graph does hangs on Quantum besides, which is 4.
func usual(threads int) api.Config {
	return api.Config{Pages: 2, Threads: threads, Window: 20, Quantum: 4, Target: 700, Cap: 9, Tax: 3, Chunk: 3, Stack: 3, Trigger: 2}
}

// refusals are such as a collector may answer, and any other number.
func refusals() []api.Errno {
	return []api.Errno{api.ErrFull, api.ErrTax, api.ErrState, api.ErrRange, api.ErrCount, api.ErrNone, 1, 2, -1, 255, 256, -256, 1 << 16, 1 << 32, -1 << 32, least, greatest}
}

// alike tells whether two views tell the same; nil and empty lists are one.
func alike(a api.View, b api.View) bool {
	return slices.EqualFunc(a.Roots, b.Roots, slices.Equal[[]api.Value]) && slices.EqualFunc(a.Nodes, b.Nodes, func(m api.Node, n api.Node) bool {
		return m.Serial == n.Serial && slices.Equal(m.Fields, n.Fields)
	})
}

// held is a graph, and the plain one that it is held against.
type held struct {
	*testing.T
	graph *graph.Graph
	plain *plain
	// Between the steps that are looked at, only answers are held.
	quiet bool
}

// made is a new graph of a config that may be.
func made(t *testing.T, c api.Config) *graph.Graph {
	t.Helper()
	g, e := graph.New(c)
	if g == nil || e != api.OK {
		t.Fatalf("P25.1: New(%v) = %v, %d", c, g, e)
	}
	return g
}

// newHeld is a new one of a config that may be, whose threads from 0 on are live, as many as are said.
func newHeld(t *testing.T, c api.Config, live int) *held {
	t.Helper()
	h := &held{T: t, graph: made(t, c), plain: newPlain(c)}
	h.look("new")
	for thread := range live {
		h.do(start(thread))
	}
	return h
}

// look asks all that is told.
func (h *held) look(when any) {
	h.Helper()
	if got, want := h.graph.Made(), int64(len(h.plain.objects)); got != want {
		h.Fatalf("P25.1: %v: Made() = %d; want %d", when, got, want)
	}
	if got, want := h.graph.Live(), h.plain.alive(); !slices.Equal(got, want) {
		h.Fatalf("P25.1: %v: Live() = %v; want %v", when, got, want)
	}
	if got, want := h.graph.View(), h.plain.view(); !alike(got, want) {
		h.Fatalf("P25.1: %v: View() = %v; want %v", when, got, want)
	}
}

// refused does a step, where a collector would answer no, and looks.
func (h *held) refused(x api.Step, no api.Errno) api.Answer {
	h.Helper()
	got, want := h.graph.Do(x, no), h.plain.do(x, no)
	if got != want {
		h.Fatalf("P25.1: of %v, Do(%v, %d) = %v; want %v", h.plain.values, x, no, got, want)
	}
	if !h.quiet {
		h.look(x)
	}
	return got
}

// do does steps, one behind the other.
func (h *held) do(l ...api.Step) {
	h.Helper()
	for _, x := range l {
		h.refused(x, api.OK)
	}
}

// wants does a step, whose answer the test itself tells.
func (h *held) wants(x api.Step, want api.Answer) {
	h.Helper()
	h.wantsWith(x, api.OK, want)
}

func (h *held) wantsWith(x api.Step, no api.Errno, want api.Answer) {
	h.Helper()
	if got := h.refused(x, no); got != want {
		h.Fatalf("P25.1: Do(%v, %d) = %v; want %v", x, no, got, want)
	}
}

// errs does a step that has that error, whatever a collector answers.
func (h *held) errs(x api.Step, e api.Errno) {
	h.Helper()
	h.wants(x, refuses(e))
	for _, no := range refusals() {
		h.wantsWith(x, no, refuses(e))
	}
}

// fill lets t hold as many values as it may: what it has, and numbers.
func (h *held) fill(t int) {
	h.Helper()
	for len(h.plain.values[t]) < mostRoots {
		h.do(number(t, int64(len(h.plain.values[t]))))
	}
}

// empty lets t hold nothing.
func (h *held) empty(t int) {
	h.Helper()
	for len(h.plain.values[t]) > 0 {
		h.do(pop(t))
	}
}

// serials wants the nodes of a view to be those.
func (h *held) serials(want ...int64) {
	h.Helper()
	var got []int64
	for _, n := range h.graph.View().Nodes {
		got = append(got, n.Serial)
	}
	if !slices.Equal(got, want) {
		h.Fatalf("P25.1: there can be reached %v; want %v", got, want)
	}
}

// holds wants t to hold these values.
func (h *held) holds(t int, want ...api.Value) {
	h.Helper()
	if got := h.graph.View().Roots[t]; !slices.Equal(got, want) {
		h.Fatalf("P25.1: thread %d holds %v; want %v", t, got, want)
	}
}

// node is the fields of that object in a view.
func (h *held) node(serial int64) []api.Value {
	h.Helper()
	for _, n := range h.graph.View().Nodes {
		if n.Serial == serial {
			return n.Fields
		}
	}
	h.Fatalf("P25.1: %d is not reached", serial)
	return nil
}
