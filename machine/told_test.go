package machine_test

import (
	"bytes"
	"slices"
	"testing"

	"scutage/api"
	"scutage/machine"
)

// TestView: what each thread holds, nothing of one that is not live, and what can be reached, with references as serials.
func TestView(t *testing.T) {
	h := newHeld(t, usual(12, 3), 2)
	h.do(alloc(1, 2), number(1, 7), write(1, 0, 1, 1), alloc(1, 0), write(1, 0, 0, 2), alloc(1, 1), global(1), write(1, 4, 2, 3), write(1, 3, 0, 4), pop(1), pop(1), pop(1), nothing(1))
	want := api.View{
		Roots: [][]api.Value{nil, {ref(1), num(7), {}}, nil},
		Nodes: []api.Node{{Serial: 0, Fields: []api.Value{{}, {}, ref(3), {}}}, {Serial: 1, Fields: []api.Value{ref(2), num(7)}}, {Serial: 2}, {Serial: 3, Fields: []api.Value{ref(0)}}},
	}
	if got := h.machine.View(); !alike(got, want) {
		t.Errorf("P26.1: View() = %v; want %v", got, want)
	}
	h.do(alloc(1, 1), pop(1), stop(1))
	want.Roots[1] = nil
	want.Nodes = []api.Node{want.Nodes[0], want.Nodes[3]}
	if got := h.machine.View(); !alike(got, want) {
		t.Errorf("P26.1: View() = %v; want %v", got, want)
	}
	h.kept(0, 1, 2, 3, 4)
}

// TestViewRises: a later object stands where an earlier one was freed: nodes and objects rise by serial all the same.
func TestViewRises(t *testing.T) {
	h := newHeld(t, usual(8, 1), 1)
	h.do(alloc(0, 1), alloc(0, 1), alloc(0, 1), global(0), write(0, 3, 0, 0), write(0, 3, 1, 2), nothing(0), write(0, 3, 0, 4), pop(0), pop(0), pop(0), pop(0), pop(0))
	h.do(begin())
	h.to(idle)
	h.kept(0, 3)
	// Where 2 stood, and where 1 did: ahead of 3.
	h.wants(alloc(0, 0), refers(4))
	h.wants(alloc(0, 0), refers(5))
	h.wants(alloc(0, 31), refers(6))
	h.do(write(0, 2, 0, 1), write(0, 2, 1, 0), pop(0), pop(0), pop(0))
	h.kept(0, 3, 4, 5, 6)
	h.do(global(0), read(0, 0, 1))
	h.wants(read(0, 0, 1), refers(3))
	h.do(alloc(0, 31), write(0, 3, 0, 2), pop(0))
	h.do(begin())
	h.to(idle)
	h.kept(0, 3)
	for serial := int64(8); serial < 12; serial++ {
		h.wants(alloc(0, 1), refers(serial))
	}
	h.look("the end")
}

// TestChain: as long a chain as there is room for, and a ring: all of it is seen, and stays, till nothing leads to it.
func TestChain(t *testing.T) {
	h := newHeld(t, api.Config{Pages: 64, Threads: 2, Window: 64, Quantum: 1, Cap: 10, Tax: 1, Chunk: 1, Stack: 1}, 1)
	h.quiet = true
	h.do(global(0), alloc(0, 1), write(0, 0, 0, 1), write(0, 0, 1, 1), pop(0))
	made := int64(1)
	for h.plain.cycle.Free() > 0 {
		made++
		h.makes(alloc(0, 1), made)
		// The global object leads to the last one made, which leads to the one ahead of it.
		h.do(read(0, 0, 0), write(0, 1, 0, 2), write(0, 0, 0, 1), pop(0), pop(0))
	}
	h.look("a chain")
	h.do(read(0, 0, 1), read(0, 0, 0), write(0, 1, 0, 2), pop(0), pop(0))
	h.look("a ring")
	for range 2 {
		h.do(begin())
		h.to(idle)
		h.look("a ring behind a cycle")
	}
	if got := len(h.machine.View().Nodes); got != int(made)+1 || got < 900 {
		t.Errorf("P26.1: %d nodes can be seen; want %d", got, made+1)
	}
	h.do(nothing(0), write(0, 0, 0, 1), write(0, 0, 1, 1), begin())
	h.to(idle)
	h.kept(0)
}

// TestLive: rising, of all sets of threads.
func TestLive(t *testing.T) {
	for threads := 1; threads <= 8; threads++ {
		for set := range 1 << threads {
			h := newHeld(t, usual(2, threads), 0)
			h.quiet = true
			var want []int
			// The greatest first.
			for thread := threads - 1; thread >= 0; thread-- {
				if set>>thread&1 == 1 {
					h.do(start(thread))
					want = append([]int{thread}, want...)
				}
			}
			if got := h.machine.Live(); !slices.Equal(got, want) {
				t.Fatalf("P26.1: Live() = %v; want %v", got, want)
			}
			for _, thread := range want {
				h.do(stop(thread))
			}
			if got := h.machine.Live(); len(got) != 0 {
				t.Fatalf("P26.1: Live() = %v", got)
			}
		}
	}
}

// lists are all lists of values of a view.
func lists(v api.View) []*[]api.Value {
	var l []*[]api.Value
	for i := range v.Roots {
		l = append(l, &v.Roots[i])
	}
	for i := range v.Nodes {
		l = append(l, &v.Nodes[i].Fields)
	}
	return l
}

// TestWrittenOn: what is answered is new memory: it can be written on, and made longer.
func TestWrittenOn(t *testing.T) {
	inPhases(t, usual(12, 3), 2, func(h *held) {
		h.do(alloc(0, 2), number(0, 5), write(0, 0, 0, 1), global(0), write(0, 2, 1, 0), number(1, 3), global(1))
		m := h.machine
		v := m.View()
		for i, l := range lists(v) {
			for k := range *l {
				(*l)[k] = num(int64(-1000 - i))
			}
			*l = append(*l, num(9), num(9), num(9))
		}
		// Each list has its own: what was put behind one is not another one's.
		for i, l := range lists(v) {
			for _, x := range (*l)[:len(*l)-3] {
				if x != num(int64(-1000-i)) {
					h.Fatalf("P2: lists of one view share memory: %v", v)
				}
			}
		}
		for i := range v.Nodes {
			v.Nodes[i].Serial = -7
		}
		h.look("a view was written on")
		objects := m.Objects()
		for i := range objects {
			objects[i] = -1
		}
		_ = append(objects, -2, -2)
		live := m.Live()
		for i := range live {
			live[i] = 2
		}
		_ = append(live, 2, 2)
		h.look("lists were written on")
		h.frames(m)
	})
}

// frames writes on what Frame answers, and on what it was handed.
func (h *held) frames(m *machine.Machine) {
	h.Helper()
	b := octets(number(0, 77))
	one := m.Frame(b)
	h.plain.do(number(0, 77))
	for i := range b {
		b[i] = 255
	}
	h.look("octets were written on")
	wrong := m.Frame([]byte{1})
	for _, l := range [][]byte{one, wrong} {
		for i := range l {
			l[i] = 99
		}
		_ = append(l, 99)
	}
	h.look("octets were written on")
	if got := m.Frame([]byte{1}); !bytes.Equal(got, answered(refuses(api.ErrSyntax))) {
		h.Fatalf("P2: Frame = %v", got)
	}
	two := m.Frame(octets(number(0, 77)))
	h.plain.do(number(0, 77))
	if !bytes.Equal(two, answered(tells(77))) {
		h.Fatalf("P2: Frame = %v", two)
	}
}

// TestAsking: what is only asked changes nothing, however often.
func TestAsking(t *testing.T) {
	inPhases(t, usual(8, 2), 2, func(h *held) {
		h.do(alloc(0, 3), global(0), write(0, 1, 0, 0))
		was := h.told()
		for range 5 {
			h.look("asked again")
		}
		if h.told() != was {
			h.Errorf("P26.1: when asked again it is %v; it was %v", h.told(), was)
		}
	})
}
