package graph_test

import (
	"slices"
	"testing"

	"scutage/api"
)

// TestReached: what can be reached, and no other, rising by serial, in whatever order it is met.
func TestReached(t *testing.T) {
	h := newHeld(t, usual(2), 1)
	h.serials(0)
	for range 6 {
		h.do(alloc(0, 2))
	}
	h.serials(0, 1, 2, 3, 4, 5, 6)
	// 6 leads to 2 and 5, 2 to 4, 4 to 1, which leads to 6; nothing leads to 3.
	h.do(write(0, 5, 0, 1), write(0, 5, 1, 4), write(0, 1, 1, 3), write(0, 3, 0, 0), write(0, 0, 1, 5))
	h.do(start(1), global(0), write(0, 6, 3, 5), global(1), read(1, 0, 3))
	h.do(stop(0))
	h.serials(0, 1, 2, 4, 5, 6)
	h.holds(0)
	h.holds(1, ref(0), ref(6))
	// By the global object alone.
	h.empty(1)
	h.serials(0, 1, 2, 4, 5, 6)
	// By what a thread holds alone, from the midst of the ring.
	h.do(global(1), read(1, 0, 3), read(1, 1, 0), read(1, 2, 1), nothing(1), write(1, 0, 3, 4))
	h.serials(0, 1, 2, 4, 5, 6)
	h.do(pop(1), pop(1), pop(1), pop(1))
	h.holds(1, ref(0))
	h.serials(0)
	h.do(stop(1))
	h.serials(0)
	if h.graph.Made() != 7 {
		t.Errorf("P25.1: Made() = %d; want 7", h.graph.Made())
	}
}

// TestRings: what is reached no more is gone from the view, be it a ring, or an object that leads to itself.
func TestRings(t *testing.T) {
	h := newHeld(t, usual(2), 2)
	for n := 1; n <= mostRoots; n++ {
		for range n {
			h.do(alloc(0, 3))
		}
		for i := range n {
			h.do(write(0, i, 1, (i+1)%n))
		}
		h.look("a ring")
		for len(h.plain.values[0]) > 1 {
			h.do(pop(0))
		}
		if got := len(h.graph.View().Nodes); got != 1+n {
			t.Fatalf("P25.1: of a ring of %d, %d objects can be reached", n, got-1)
		}
		h.do(pop(0))
		h.serials(0)
	}
	h.do(alloc(0, 1), write(0, 0, 0, 0))
	serial := h.graph.Made() - 1
	h.serials(0, serial)
	h.do(pop(0))
	h.serials(0)
	h.do(global(1), write(1, 0, 0, 0), pop(1))
	h.serials(0)
	if l := h.node(0); l[0] != ref(0) {
		t.Errorf("P25.1: the fields of 0 are %v", l)
	}
}

// TestOneOfMany: many lead to one, and as long as one does, it is there.
func TestOneOfMany(t *testing.T) {
	h := newHeld(t, usual(2), 1)
	h.do(alloc(0, 0))
	for range mostRoots - 1 {
		h.do(alloc(0, 127))
	}
	for i := 1; i < mostRoots; i++ {
		h.quiet = i%5 != 0
		for f := range mostFields {
			h.do(write(0, i, f, 0))
		}
	}
	h.quiet = false
	h.look("many lead to one")
	// Of those the global object leads to four, and nobody holds anything any more.
	h.do(start(1), pop(0), global(0))
	for f := range 4 {
		h.do(write(0, 15, f, f+1))
	}
	h.do(stop(0))
	h.serials(0, 1, 2, 3, 4, 5)
	h.do(global(1), nothing(1))
	for f := range 4 {
		want := []int64{0, 1}
		for i := f + 1; i < 4; i++ {
			want = append(want, int64(i)+2)
		}
		if f == 3 {
			want = []int64{0}
		}
		h.do(write(1, 0, f, 1))
		h.serials(want...)
	}
}

// TestNodes: objects of all numbers of fields, told with all of them.
func TestNodes(t *testing.T) {
	h := newHeld(t, usual(2), 2)
	h.do(nothing(0))
	for n := int64(0); n <= mostFields; n++ {
		h.do(alloc(0, n))
		if l := h.node(n + 1); !slices.Equal(l, make([]api.Value, n)) {
			t.Fatalf("P25.1: the fields of %d are %v", n+1, l)
		}
		for f := range int(n) {
			h.quiet = f != int(n)-1
			h.do(number(0, n*1000+int64(f)), write(0, 1, f, 2), pop(0))
		}
		h.quiet = false
		h.look("all its fields are written")
		h.do(pop(0))
	}
}

// TestLongChain: more objects than calls within calls can have, and than there are addresses.
func TestLongChain(t *testing.T) {
	h := newHeld(t, usual(2), 1)
	h.quiet = true
	h.do(global(0))
	length := int64(100000)
	// Each leads to the one before it; the last one is field 0 of the global object.
	for range length {
		h.do(alloc(0, 2), read(0, 0, 0), write(0, 1, 1, 2), write(0, 0, 0, 1), pop(0), pop(0))
	}
	h.look("a long chain")
	if got := int64(len(h.graph.View().Nodes)); got != 1+length {
		t.Fatalf("P25.1: of a chain of %d, %d can be reached", length, got-1)
	}
	// Each leads to the one behind it; the first one is field 3.
	h.do(alloc(0, 127), write(0, 0, 3, 1))
	for range length {
		h.do(alloc(0, 2), write(0, 1, 1, 2), write(0, 0, 2, 2), pop(0), pop(0), read(0, 0, 2))
	}
	h.wants(same(0, 1, 1), tells(1))
	h.wants(again(0, 1), refers(2*length+1))
	h.wants(size(0, 2), tells(2))
	h.do(pop(0), pop(0), nothing(0), write(0, 0, 2, 1))
	h.look("two long chains")
	h.do(write(0, 0, 0, 1))
	h.look("one long chain")
	if got := int64(len(h.graph.View().Nodes)); got != 2+length {
		t.Fatalf("P25.1: of a chain of %d, %d can be reached", length+1, got-1)
	}
	h.do(write(0, 0, 3, 1))
	h.quiet = false
	h.look("no chain")
	h.serials(0)
}

// TestGreatSerials: references to objects of which there are more than addresses are values as others are.
func TestGreatSerials(t *testing.T) {
	h := newHeld(t, usual(2), 2)
	h.quiet = true
	for h.graph.Made() < 1<<17+3 {
		h.do(alloc(0, 0), pop(0))
		near := false
		for _, n := range []int64{1 << 8, 1 << 11, 1 << 15, 1 << 16, 1 << 17} {
			near = near || h.graph.Made() >= n-2 && h.graph.Made() <= n+2
		}
		if near {
			h.quiet = false
			h.great()
			h.quiet = true
		}
	}
}

// great does each kind of steps with the object that is made next.
func (h *held) great() {
	h.Helper()
	serial := h.graph.Made()
	h.wants(alloc(0, 3), refers(serial))
	h.wants(again(0, 0), refers(serial))
	h.wants(same(0, 0, 1), tells(1))
	h.wants(number(0, serial), tells(serial))
	h.wants(same(0, 0, 2), tells(0))
	h.wants(size(0, 1), tells(3))
	h.wants(write(0, 0, 2, 1), api.Answer{})
	h.wants(write(0, 0, 1, 2), api.Answer{})
	h.wants(read(0, 0, 2), refers(serial))
	h.wants(read(0, 3, 1), tells(serial))
	h.wants(global(0), refers(0))
	h.wants(write(0, 5, 1, 3), api.Answer{})
	h.wants(global(1), refers(0))
	h.wants(read(1, 0, 1), refers(serial))
	h.wants(pop(1), refers(serial))
	h.wants(pop(1), refers(0))
	h.empty(0)
	h.serials(0, serial)
	h.do(global(0), nothing(0), write(0, 0, 1, 1))
	h.empty(0)
	h.serials(0)
}

// TestLive: rising, in whatever order they start and stop.
func TestLive(t *testing.T) {
	h := newHeld(t, usual(8), 0)
	for _, x := range []struct {
		step api.Step
		want []int
	}{
		{start(5), []int{5}},
		{start(2), []int{2, 5}},
		{start(7), []int{2, 5, 7}},
		{start(0), []int{0, 2, 5, 7}},
		{stop(5), []int{0, 2, 7}},
		{start(6), []int{0, 2, 6, 7}},
		{start(1), []int{0, 1, 2, 6, 7}},
		{start(5), []int{0, 1, 2, 5, 6, 7}},
		{stop(0), []int{1, 2, 5, 6, 7}},
		{stop(7), []int{1, 2, 5, 6}},
		{start(4), []int{1, 2, 4, 5, 6}},
		{start(3), []int{1, 2, 3, 4, 5, 6}},
		{start(0), []int{0, 1, 2, 3, 4, 5, 6}},
		{start(7), []int{0, 1, 2, 3, 4, 5, 6, 7}},
	} {
		h.wants(x.step, api.Answer{})
		if got := h.graph.Live(); !slices.Equal(got, x.want) {
			t.Fatalf("P25.1: behind %v, Live() = %v; want %v", x.step, got, x.want)
		}
	}
	// Each one's values are its own.
	for thread := range 8 {
		for range thread {
			h.do(number(thread, int64(thread)))
		}
	}
	for thread := range 8 {
		h.holds(thread, slices.Repeat([]api.Value{num(int64(thread))}, thread)...)
	}
}

// TestMade: how many were made, whatever is held no more, and whatever is refused.
func TestMade(t *testing.T) {
	h := newHeld(t, usual(1), 1)
	for made := int64(1); made < 40; made++ {
		if got := h.graph.Made(); got != made {
			t.Fatalf("P25.1: Made() = %d; want %d", got, made)
		}
		h.wantsWith(alloc(0, 1), api.ErrFull, refuses(api.ErrFull))
		h.errs(alloc(0, 128), api.ErrRange)
		h.do(global(0), nothing(0), number(0, 3))
		h.wants(alloc(0, 1), refers(made))
		h.fill(0)
		h.errs(alloc(0, 1), api.ErrCount)
		h.empty(0)
		if made%3 == 0 {
			h.do(stop(0))
			h.errs(alloc(0, 1), api.ErrNone)
			h.do(start(0))
		}
	}
}

// scribble writes over all lists of a view, and behind them as far as they have room; no list may have what another one was told.
func scribble(t *testing.T, v api.View) {
	t.Helper()
	lists := slices.Clone(v.Roots)
	for _, n := range v.Nodes {
		lists = append(lists, n.Fields)
	}
	for i, l := range lists {
		l = l[:cap(l)]
		for j := range l {
			l[j] = num(int64(i))
		}
	}
	for i, l := range lists {
		for _, x := range l[:cap(l)] {
			if x != num(int64(i)) {
				t.Fatalf("P2: of a view's lists, two share what they have: %v", lists)
			}
		}
	}
	for i := range v.Nodes[:cap(v.Nodes)] {
		v.Nodes[:cap(v.Nodes)][i] = api.Node{Serial: -3}
	}
	for i := range v.Roots[:cap(v.Roots)] {
		v.Roots[:cap(v.Roots)][i] = []api.Value{num(77)}
	}
}

// TestWrittenOn: what is told can be written on: neither the graph knows, nor what was told ahead.
func TestWrittenOn(t *testing.T) {
	h := newHeld(t, usual(4), 3)
	for range 3 {
		h.do(alloc(0, 3), alloc(1, 1), alloc(1, 0), write(0, 0, 2, 0), number(0, 4), write(0, 0, 1, 1), global(1), write(1, 2, 3, 0))
		kept, lost := h.graph.View(), h.graph.View()
		live, gone := h.graph.Live(), h.graph.Live()
		scribble(h.T, lost)
		for i := range gone[:cap(gone)] {
			gone[:cap(gone)][i] = 9
		}
		if !alike(kept, h.plain.view()) || !slices.Equal(live, h.plain.alive()) {
			t.Fatalf("P2: what was told ahead is %v, %v", kept, live)
		}
		h.look("what was told is written on")
		// Nor does what was told change with the graph.
		want := h.plain.view()
		h.do(write(0, 0, 0, 0), write(0, 0, 1, 0), pop(0), pop(0), stop(2))
		if !alike(kept, want) || !slices.Equal(live, []int{0, 1, 2}) {
			t.Fatalf("P2: what was told ahead is %v, %v", kept, live)
		}
		h.do(start(2), pop(1))
	}
}
