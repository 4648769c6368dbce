package graph_test

import (
	"slices"
	"testing"

	"scutage/api"
	"scutage/graph"
)

// field is a config's field at that place, from 1 on.
func field(c *api.Config, place int) *int {
	return []*int{nil, &c.Pages, &c.Threads, &c.Window, &c.Quantum, &c.Target, &c.Cap, &c.Tax, &c.Chunk, &c.Stack, &c.Trigger}[place]
}

// ends are the least and the greatest number that each field may be, as chapter 2 writes them out.
func ends() [11][2]int {
	return [11][2]int{{}, {2, 64}, {1, 8}, {1, 64}, {1, 16}, {0, 1000}, {0, 65535}, {0, 64}, {1, 16}, {1, 256}, {0, 64}}
}

// ample is a config of which each field may be any number, but for Target.
func ample() api.Config {
	return api.Config{Pages: 3, Threads: 2, Window: 64, Quantum: 1, Target: 0, Cap: 9, Tax: 3, Chunk: 3, Stack: 3, Trigger: 2}
}

// not wants that there is no graph of that config.
func not(t *testing.T, c api.Config) {
	t.Helper()
	if g, e := graph.New(c); g != nil || e != api.ErrConfig {
		t.Fatalf("P25.1: New(%v) = %v, %d; want nil, %d", c, g, e, api.ErrConfig)
	}
}

// TestNewWrong: configs that may not be, for each field below it and above it.
func TestNewWrong(t *testing.T) {
	not(t, api.Config{})
	for place := 1; place <= 10; place++ {
		lo, hi := ends()[place][0], ends()[place][1]
		for _, n := range []int{lo - 1, lo - 2, lo - 100, hi + 1, hi + 2, hi + 100, lo - 1<<32, hi + 1<<32, least, greatest} {
			c := ample()
			*field(&c, place) = n
			not(t, c)
			// Another one is wrong besides.
			*field(&c, place%10+1) = -1
			not(t, c)
		}
	}
	// A window that leaves too little.
	for _, c := range []api.Config{
		{Pages: 4, Threads: 1, Window: 1, Quantum: 1, Target: 1, Chunk: 1, Stack: 1},
		{Pages: 4, Threads: 1, Window: 10, Quantum: 3, Target: 701, Chunk: 1, Stack: 1},
		{Pages: 4, Threads: 1, Window: 64, Quantum: 1, Target: 1000, Chunk: 1, Stack: 1},
		{Pages: 4, Threads: 1, Window: 15, Quantum: 16, Target: 0, Chunk: 1, Stack: 1},
	} {
		not(t, c)
	}
}

// fresh wants a new graph of that config to be as the chapter says, with as many threads, and as great a cost.
func fresh(t *testing.T, c api.Config) {
	t.Helper()
	g := made(t, c)
	v := g.View()
	if len(v.Roots) != c.Threads || slices.ContainsFunc(v.Roots, func(l []api.Value) bool { return len(l) > 0 }) {
		t.Fatalf("P25.1: of New(%v), Roots = %v", c, v.Roots)
	}
	if len(v.Nodes) != 1 || v.Nodes[0].Serial != 0 || !slices.Equal(v.Nodes[0].Fields, make([]api.Value, 4)) {
		t.Fatalf("P25.1: of New(%v), Nodes = %v", c, v.Nodes)
	}
	if len(g.Live()) != 0 || g.Made() != 1 {
		t.Fatalf("P25.1: of New(%v), Live() = %v, Made() = %d", c, g.Live(), g.Made())
	}
	h := newHeld(t, c, c.Threads)
	h.errs(start(c.Threads), api.ErrRange)
	for thread := range c.Threads {
		h.errs(start(thread), api.ErrState)
		h.wants(costs(ahead(thread, 64), c.Quantum), api.Answer{})
		h.errs(costs(ahead(thread, 64), c.Quantum+1), api.ErrRange)
		h.errs(costs(alloc(thread, 127), c.Quantum+1), api.ErrRange)
		h.wants(costs(alloc(thread, 127), c.Quantum), refers(int64(thread)+1))
	}
}

// TestNewEnds: configs that may be, each field at its ends, and all of them.
func TestNewEnds(t *testing.T) {
	for place := 1; place <= 10; place++ {
		for _, n := range ends()[place] {
			c := ample()
			*field(&c, place) = n
			if place == 5 && n != 0 {
				// Of the window's 64 ticks one must be left.
				c.Target = 984
			}
			fresh(t, c)
		}
	}
	for threads := 1; threads <= 8; threads++ {
		for quantum := 1; quantum <= 16; quantum++ {
			fresh(t, api.Config{Pages: 2, Threads: threads, Window: quantum, Quantum: quantum, Chunk: 1, Stack: 1})
		}
	}
	fresh(t, api.Config{Pages: 2, Threads: 1, Window: 1, Quantum: 1, Chunk: 1, Stack: 1})
	fresh(t, api.Config{Pages: 64, Threads: 8, Window: 64, Quantum: 16, Target: 750, Cap: 65535, Tax: 64, Chunk: 16, Stack: 256, Trigger: 64})
}

// TestNew: one graph knows nothing of another one of the same config.
func TestNew(t *testing.T) {
	one, two := newHeld(t, usual(2), 1), newHeld(t, usual(2), 0)
	one.do(alloc(0, 3), global(0), write(0, 1, 2, 0))
	two.look("another one has an object")
	two.do(start(1), alloc(1, 2))
	one.look("another one has a thread")
}

// TestNone: of nil, or one that New did not make: ErrState alone, zero, nothing, 0, nil, again and again.
func TestNone(t *testing.T) {
	var l []api.Step
	for kind := -1; kind <= lastKind+1; kind++ {
		l = append(l, api.Step{Kind: kind}, api.Step{Kind: kind, T: 1, I: 2, F: 3, J: 4, Cost: 1, N: 1}, api.Step{Kind: kind, T: 8, N: 64, Cost: 1}, api.Step{Kind: kind, N: 1}, api.Step{Kind: kind, T: -1}, api.Step{Kind: kind, T: greatest, I: least, F: least, J: greatest, Cost: least, N: least})
	}
	for name, g := range map[string]*graph.Graph{"nil": nil, "one that New did not make": {}, "another one": new(graph.Graph)} {
		for range 2 {
			for _, x := range l {
				for _, no := range append(refusals(), api.OK) {
					if got := g.Do(x, no); got != refuses(api.ErrState) {
						t.Fatalf("P25.1: of %s, Do(%v, %d) = %v", name, x, no, got)
					}
				}
			}
			if v := g.View(); len(v.Roots) != 0 || len(v.Nodes) != 0 {
				t.Fatalf("P25.1: of %s, View() = %v", name, v)
			}
			if len(g.Live()) != 0 || g.Made() != 0 || g.Clone() != nil {
				t.Fatalf("P25.1: of %s, Live() = %v, Made() = %d, Clone() = %v", name, g.Live(), g.Made(), g.Clone())
			}
		}
	}
}
