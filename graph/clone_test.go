package graph_test

import (
	"slices"
	"testing"

	"scutage/api"
)

// clone is a clone of h's graph, held against one of the plain one.
func (h *held) clone() *held {
	h.Helper()
	c := &held{T: h.T, graph: h.graph.Clone(), plain: h.plain.copied(), quiet: h.quiet}
	if c.graph == nil || c.graph == h.graph {
		h.Fatal("P25.1: Clone() is none, or the same one")
	}
	return c
}

// TestClone: a clone has the same, in any state, and knows the config.
func TestClone(t *testing.T) {
	c := usual(3)
	c.Quantum = 3
	h := newHeld(t, c, 0)
	all := func() {
		t.Helper()
		x := h.clone()
		x.look("a clone")
		x.clone().look("a clone's clone")
		x.errs(start(3), api.ErrRange)
		x.wants(begin(), api.Answer{})
		x.do(start(2))
		x.errs(costs(ahead(2, 1), 4), api.ErrRange)
		x.wants(costs(ahead(2, 1), 3), api.Answer{})
		x.wants(alloc(2, 5), refers(h.graph.Made()))
		h.look("its clone is not as it was cloned")
	}
	all()
	h.do(start(1))
	all()
	h.do(alloc(1, 2), number(1, 4), write(1, 0, 1, 1), write(1, 0, 0, 0), global(1))
	all()
	h.do(write(1, 2, 1, 0), start(0), global(0), read(0, 0, 1))
	all()
	h.do(stop(1))
	all()
	h.fill(0)
	all()
}

// changes are steps that change each thing that is told, of a graph where thread 0 holds a reference to an object of 3 fields, and a number, and thread 1 is live.
func changes() map[string][]api.Step {
	return map[string][]api.Step{
		"start":      {start(2), number(2, 3)},
		"stop":       {stop(1)},
		"stop first": {stop(0), start(0), number(0, 8)},
		"alloc":      {alloc(0, 2), write(0, 2, 1, 2)},
		"pop":        {pop(0), number(0, 9)},
		"push":       {nothing(0), number(1, 4)},
		"write":      {write(0, 0, 0, 1), write(0, 0, 1, 0)},
		"global":     {global(0), write(0, 2, 3, 0)},
		"all": {alloc(1, 3), alloc(0, 1), global(1), write(1, 1, 0, 0), write(0, 0, 2, 2), write(0, 2, 0, 0),
			stop(0), start(2), global(2), read(2, 0, 0), write(2, 1, 1, 0)},
	}
}

// likes tells whether two graphs tell the same.
func (h *held) likes(other *held) bool {
	return alike(h.graph.View(), other.graph.View()) && slices.Equal(h.graph.Live(), other.graph.Live())
}

// TestCloneApart: what is done to the one is not told by the other, from both sides, and of clones of clones.
func TestCloneApart(t *testing.T) {
	for name, l := range changes() {
		h := newHeld(t, usual(3), 2)
		h.do(alloc(0, 3), number(0, 6))
		one := h.clone()
		two := h.clone()
		three := two.clone()
		all := []*held{h, one, two, three}
		for i, x := range all {
			x.do(l...)
			for j, y := range all {
				y.look(name)
				// Those that are done are as those that are not: each has its own.
				if (j <= i) != y.likes(h) {
					t.Fatalf("P25.1: %s: what %d of 4 were told, %d tells", name, i+1, j)
				}
			}
		}
		// Other steps for each.
		for i, x := range all {
			x.do(stop(1), start(1), alloc(1, int64(i)), number(1, int64(i)))
			for _, y := range all {
				y.look(name)
			}
		}
	}
}

// TestCloneMany: as many objects as there are, in lists with and without room behind.
func TestCloneMany(t *testing.T) {
	h := newHeld(t, usual(2), 2)
	for n := range int64(70) {
		h.do(alloc(0, n%4), global(0))
		if n%4 > 0 {
			h.do(write(0, 0, 0, 1), write(0, 1, int(n%4), 0))
		}
		c := h.clone()
		// Both make an object of the same serial.
		c.do(alloc(1, 1), write(1, 0, 0, 0))
		h.do(alloc(1, 3), write(1, 0, 2, 0))
		c.look("both made one")
		c.do(write(0, 1, 1, 0))
		h.do(write(0, 1, 2, 1))
		c.look("both wrote")
		h.do(pop(1), pop(0), pop(0))
	}
}
