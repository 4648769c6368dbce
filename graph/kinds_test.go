package graph_test

import (
	"testing"

	"scutage/api"
)

// TestStartStop: a thread starts without values, and has none when it has stopped; what it held stays made.
func TestStartStop(t *testing.T) {
	h := newHeld(t, usual(3), 0)
	h.wants(start(2), api.Answer{})
	h.wants(start(0), api.Answer{})
	h.do(alloc(2, 1), number(2, 7), write(2, 0, 0, 1), alloc(0, 2))
	h.serials(0, 1, 2)
	h.wants(stop(2), api.Answer{})
	h.serials(0, 2)
	h.holds(2)
	h.holds(0, ref(2))
	h.wants(start(2), api.Answer{})
	h.holds(2)
	h.errs(pop(2), api.ErrRange)
	h.errs(again(2, 0), api.ErrRange)
	h.wants(alloc(2, 0), refers(3))
	// As full as can be, and again.
	for range 3 {
		h.fill(2)
		h.errs(nothing(2), api.ErrCount)
		h.do(stop(2), start(2))
		h.holds(2)
	}
	h.wants(number(2, 1), tells(1))
	h.holds(2, num(1))
	if got := h.graph.Made(); got != 4 {
		t.Errorf("P25.1: Made() = %d; want 4", got)
	}
}

// TestAlloc: N and Cost at each end, and the serials.
func TestAlloc(t *testing.T) {
	for quantum := 1; quantum <= 16; quantum++ {
		c := ample()
		c.Quantum = quantum
		h := newHeld(t, c, 1)
		made := int64(0)
		for _, n := range []int64{0, 1, 2, 126, 127} {
			for _, cost := range []int{1, quantum, (quantum + 1) / 2} {
				made++
				h.wants(costs(alloc(0, n), cost), refers(made))
				h.wants(size(0, 0), tells(n))
				for i := range int(n) {
					h.quiet = i != 0 && i != int(n)-1
					h.wants(read(0, 0, i), api.Answer{})
					h.wants(pop(0), api.Answer{})
				}
				h.quiet = false
				h.errs(read(0, 0, int(n)), api.ErrRange)
				h.wants(pop(0), refers(made))
			}
			for _, cost := range []int{0, quantum + 1, quantum + 2, 255} {
				h.errs(costs(alloc(0, n), cost), api.ErrRange)
			}
		}
		for _, n := range []int64{-1, -2, -128, 128, 129, 255, 256, 1 << 32, -1 << 32, 1<<32 + 1, least, greatest} {
			for _, cost := range []int{0, 1, quantum, quantum + 1} {
				h.errs(costs(alloc(0, n), cost), api.ErrRange)
			}
		}
	}
}

// TestAllocRoom: with 15 values one more may be; with 16 not, which is told behind N and Cost.
func TestAllocRoom(t *testing.T) {
	h := newHeld(t, usual(2), 2)
	for i := range int64(mostRoots) {
		h.wants(alloc(0, 2), refers(i+1))
	}
	h.errs(alloc(0, 2), api.ErrCount)
	h.errs(alloc(0, 0), api.ErrCount)
	h.errs(costs(alloc(0, 127), 4), api.ErrCount)
	h.errs(alloc(0, 128), api.ErrRange)
	h.errs(alloc(0, -1), api.ErrRange)
	h.errs(costs(alloc(0, 2), 0), api.ErrRange)
	h.errs(costs(alloc(0, 2), 5), api.ErrRange)
	h.errs(costs(alloc(0, 128), 5), api.ErrRange)
	h.wants(alloc(1, 2), refers(17))
	h.wants(pop(0), refers(16))
	h.wants(alloc(0, 2), refers(18))
	h.errs(alloc(0, 2), api.ErrCount)
}

// TestNumber: the numbers at each end.
func TestNumber(t *testing.T) {
	h := newHeld(t, usual(1), 1)
	for _, n := range []int64{-1 << 40, -1<<40 + 1, -1, 0, 1, 2048, 1 << 31, 1 << 32, 1<<40 - 2, 1<<40 - 1} {
		h.wants(number(0, n), tells(n))
		h.holds(0, num(n))
		h.wants(pop(0), tells(n))
	}
	wrong := []int64{-1<<40 - 1, -1<<40 - 2, 1 << 40, 1<<40 + 1, 1 << 41, -1 << 41, 1 << 62, least, greatest}
	for _, n := range wrong {
		h.errs(number(0, n), api.ErrRange)
	}
	h.fill(0)
	for _, n := range wrong {
		h.errs(number(0, n), api.ErrRange)
	}
	h.errs(number(0, 0), api.ErrCount)
	h.errs(number(0, 1<<40-1), api.ErrCount)
	h.errs(number(0, -1<<40), api.ErrCount)
}

// TestPushed: what each of the five kinds pushes, and tells; with 15 values one more may be, with 16 not.
func TestPushed(t *testing.T) {
	h := newHeld(t, usual(2), 2)
	h.wants(nothing(0), api.Answer{})
	h.wants(global(0), refers(0))
	h.wants(number(0, 0), tells(0))
	h.wants(alloc(0, 3), refers(1))
	h.wants(again(0, 0), api.Answer{})
	h.wants(again(0, 1), refers(0))
	h.wants(again(0, 2), tells(0))
	h.wants(again(0, 3), refers(1))
	h.do(write(0, 3, 1, 2), write(0, 3, 2, 3))
	h.wants(read(0, 3, 0), api.Answer{})
	h.wants(read(0, 7, 1), tells(0))
	h.wants(read(0, 3, 2), refers(1))
	h.holds(0, api.Value{}, ref(0), num(0), ref(1), api.Value{}, ref(0), num(0), ref(1), api.Value{}, num(0), ref(1))
	pushes := []api.Step{alloc(0, 1), number(0, 3), nothing(0), global(0), again(0, 3), read(0, 3, 1)}
	for _, x := range pushes {
		for len(h.plain.values[0]) < mostRoots {
			if got := h.refused(x, api.OK); got.Code != api.OK {
				t.Fatalf("P25.1: with %d values, Do(%v) = %v", len(h.plain.values[0]), x, got)
			}
		}
		for _, y := range pushes {
			h.errs(y, api.ErrCount)
		}
		for range 4 {
			h.do(pop(0))
		}
	}
	// Full is the thread, not the graph.
	h.fill(0)
	h.wants(nothing(1), api.Answer{})
}

// TestAgain: I at each end, of each number of values; that it is none is told ahead of their number.
func TestAgain(t *testing.T) {
	h := newHeld(t, usual(1), 1)
	h.errs(again(0, 0), api.ErrRange)
	h.errs(again(0, 255), api.ErrRange)
	h.do(number(0, 100))
	for n := 1; n < mostRoots; n++ {
		for _, i := range []int{n, n + 1, 16, 17, 128, 255} {
			h.errs(again(0, i), api.ErrRange)
		}
		h.wants(again(0, 0), tells(100))
		h.do(pop(0), number(0, int64(100+n)))
		h.wants(same(0, n, n), tells(1))
		if n+1 < mostRoots {
			h.wants(again(0, n), tells(int64(100+n)))
			h.do(pop(0))
		}
	}
	for i := range mostRoots {
		h.errs(again(0, i), api.ErrCount)
	}
	for _, i := range []int{16, 17, 128, 255} {
		h.errs(again(0, i), api.ErrRange)
	}
	h.do(pop(0))
	h.errs(again(0, 15), api.ErrRange)
	h.wants(again(0, 14), tells(114))
}

// TestPop: the topmost value first, until there is none.
func TestPop(t *testing.T) {
	h := newHeld(t, usual(2), 2)
	h.errs(pop(0), api.ErrRange)
	h.do(number(0, -5), nothing(0), global(0), alloc(0, 9), again(0, 0), number(1, 8))
	h.wants(pop(0), tells(-5))
	h.wants(pop(0), refers(1))
	h.wants(pop(0), refers(0))
	h.holds(0, num(-5), api.Value{})
	h.wants(pop(0), api.Answer{})
	h.wants(pop(0), tells(-5))
	h.errs(pop(0), api.ErrRange)
	h.holds(1, num(8))
	h.do(stop(0), start(0))
	h.errs(pop(0), api.ErrRange)
	h.fill(0)
	for i := int64(mostRoots - 1); i >= 0; i-- {
		h.wants(pop(0), tells(i))
	}
	h.errs(pop(0), api.ErrRange)
}

// TestRead: I, what it is, F, and room, in that order.
func TestRead(t *testing.T) {
	h := newHeld(t, usual(1), 1)
	h.errs(read(0, 0, 0), api.ErrRange)
	h.do(alloc(0, 0), alloc(0, 1), alloc(0, 127), number(0, 1), nothing(0), global(0), number(0, 2))
	for i, fields := range []int{0, 1, 127, -1, -1, 4, -1} {
		if fields < 0 {
			h.errs(read(0, i, 0), api.ErrKind)
			h.errs(read(0, i, 255), api.ErrKind)
			continue
		}
		if fields > 0 {
			h.do(write(0, i, fields-1, 3))
			h.wants(read(0, i, fields-1), tells(1))
			h.do(pop(0))
		}
		for _, f := range []int{fields, fields + 1, 128, 255} {
			h.errs(read(0, i, f), api.ErrRange)
		}
	}
	for _, i := range []int{7, 8, 15, 16, 255} {
		h.errs(read(0, i, 0), api.ErrRange)
	}
	h.fill(0)
	h.errs(read(0, 16, 0), api.ErrRange)
	h.errs(read(0, 3, 0), api.ErrKind)
	h.errs(read(0, 4, 255), api.ErrKind)
	h.errs(read(0, 0, 0), api.ErrRange)
	h.errs(read(0, 1, 1), api.ErrRange)
	h.errs(read(0, 5, 4), api.ErrRange)
	h.errs(read(0, 1, 0), api.ErrCount)
	h.errs(read(0, 2, 126), api.ErrCount)
	h.errs(read(0, 5, 3), api.ErrCount)
}

// TestWrite: I, what it is, F, and J, in that order; room is not asked for.
func TestWrite(t *testing.T) {
	h := newHeld(t, usual(1), 1)
	h.errs(write(0, 0, 0, 0), api.ErrRange)
	h.do(number(0, 6), alloc(0, 2), alloc(0, 0), nothing(0), global(0))
	for range 2 {
		n := len(h.plain.values[0])
		for _, i := range []int{n, n + 1, 16, 255} {
			h.errs(write(0, i, 0, 0), api.ErrRange)
			h.errs(write(0, i, 255, 255), api.ErrRange)
			// A J that is none is told behind what I refers to, and F.
			h.errs(write(0, 0, 0, i), api.ErrKind)
			h.errs(write(0, 3, 255, i), api.ErrKind)
			h.errs(write(0, 1, 2, i), api.ErrRange)
			h.errs(write(0, 1, 1, i), api.ErrRange)
		}
		h.errs(write(0, 0, 255, 0), api.ErrKind)
		h.errs(write(0, 3, 0, 0), api.ErrKind)
		for f, i := range map[int]int{2: 1, 3: 1, 0: 2, 1: 2, 4: 4, 5: 4, 127: 4, 255: 4} {
			h.errs(write(0, i, f, 0), api.ErrRange)
		}
		h.fill(0)
		h.wants(write(0, 1, 1, 15), api.Answer{})
	}
	h.wants(write(0, 1, 0, 0), api.Answer{})
	h.do(pop(0))
	h.wants(read(0, 1, 1), tells(15))
	h.do(pop(0))
	h.wants(read(0, 1, 0), tells(6))
}

// TestWritten: into its own object, into the global object, over what was there.
func TestWritten(t *testing.T) {
	h := newHeld(t, usual(1), 1)
	h.do(alloc(0, 3), global(0), number(0, 11), nothing(0))
	for f := range 3 {
		h.wants(write(0, 0, f, 0), api.Answer{})
		h.do(again(0, 0))
		h.wants(read(0, 4, f), refers(1))
		h.do(pop(0), pop(0))
	}
	for _, j := range []int{2, 0, 1, 3, 0, 2} {
		h.wants(write(0, 0, 1, j), api.Answer{})
		h.wants(write(0, 1, 3, j), api.Answer{})
	}
	if l := h.node(1); l[0] != ref(1) || l[1] != num(11) || l[2] != ref(1) {
		t.Errorf("P25.1: the fields of 1 are %v", l)
	}
	if l := h.node(0); l[3] != num(11) || l[0] != (api.Value{}) || l[1] != (api.Value{}) || l[2] != (api.Value{}) {
		t.Errorf("P25.1: the fields of 0 are %v", l)
	}
	// The global object into itself, and what a value is then is not what it was when it was written.
	h.wants(write(0, 1, 0, 1), api.Answer{})
	h.wants(read(0, 1, 0), refers(0))
	h.do(write(0, 1, 1, 2), pop(0), pop(0), pop(0), number(0, 12))
	h.wants(read(0, 1, 1), tells(11))
}

// TestShared: what is written through one reference is read through another one, by another thread too.
func TestShared(t *testing.T) {
	h := newHeld(t, usual(3), 3)
	h.do(alloc(0, 2), again(0, 0), number(0, 5), write(0, 0, 1, 2))
	h.wants(read(0, 1, 1), tells(5))
	h.do(global(0), write(0, 4, 2, 1))
	h.do(number(1, 3), global(1))
	h.wants(read(1, 1, 2), refers(1))
	h.wants(read(1, 2, 1), tells(5))
	h.do(number(1, -6), write(1, 2, 1, 4), write(1, 2, 0, 2))
	h.wants(read(0, 0, 1), tells(-6))
	h.wants(read(0, 1, 0), refers(1))
	h.do(stop(0))
	h.do(global(2))
	h.wants(read(2, 0, 2), refers(1))
	h.wants(read(2, 1, 0), refers(1))
	h.wants(read(2, 2, 1), tells(-6))
	// What is read is pushed to the thread that reads, alone.
	h.holds(1, num(3), ref(0), ref(1), num(5), num(-6))
}

// TestSame: values are alike, if their kinds and numbers are.
func TestSame(t *testing.T) {
	h := newHeld(t, usual(1), 1)
	h.errs(same(0, 0, 0), api.ErrRange)
	h.do(alloc(0, 1), alloc(0, 1), number(0, 1), number(0, 1), number(0, -1), number(0, 0), nothing(0), nothing(0), global(0), global(0), again(0, 0), number(0, 2))
	// Which values are alike.
	groups := []int{1, 2, 3, 3, 4, 5, 6, 6, 7, 7, 1, 8}
	for i, a := range groups {
		for j, b := range groups {
			want := int64(0)
			if a == b {
				want = 1
			}
			h.wants(same(0, i, j), tells(want))
		}
		for _, n := range []int{len(groups), 15, 16, 255} {
			h.errs(same(0, i, n), api.ErrRange)
			h.errs(same(0, n, i), api.ErrRange)
			h.errs(same(0, n, n), api.ErrRange)
		}
	}
	h.fill(0)
	h.wants(same(0, 15, 0), tells(0))
	h.wants(same(0, 15, 15), tells(1))
	h.errs(same(0, 16, 15), api.ErrRange)
}

// TestSize: of objects with no field and with as many as may be, and of the global one.
func TestSize(t *testing.T) {
	h := newHeld(t, usual(1), 1)
	h.errs(size(0, 0), api.ErrRange)
	h.do(alloc(0, 0), alloc(0, 3), alloc(0, 127), global(0), number(0, 3), nothing(0))
	for i, n := range []int64{0, 3, 127, 4} {
		h.wants(size(0, i), tells(n))
	}
	h.errs(size(0, 4), api.ErrKind)
	h.errs(size(0, 5), api.ErrKind)
	for _, i := range []int{6, 7, 16, 255} {
		h.errs(size(0, i), api.ErrRange)
	}
	h.fill(0)
	h.wants(size(0, 2), tells(127))
	h.errs(size(0, 15), api.ErrKind)
	h.errs(size(0, 16), api.ErrRange)
}

// TestTicks: run, ahead and back, with N and Cost at each end, of a thread with nothing and a full one: nothing is told, and nothing changes.
func TestTicks(t *testing.T) {
	for quantum := 1; quantum <= 16; quantum++ {
		c := ample()
		c.Quantum = quantum
		h := newHeld(t, c, 2)
		h.fill(1)
		for thread := range 2 {
			for _, n := range []int64{1, 2, 32, 63, 64} {
				h.wants(run(thread, n), api.Answer{})
				h.wants(back(n), api.Answer{})
				for _, cost := range []int{1, quantum} {
					h.wants(costs(ahead(thread, n), cost), api.Answer{})
					h.wantsWith(costs(ahead(thread, n), cost), api.ErrTax, refuses(api.ErrTax))
				}
				for _, cost := range []int{0, quantum + 1, 255} {
					h.errs(costs(ahead(thread, n), cost), api.ErrRange)
				}
			}
			for _, n := range []int64{0, -1, -64, 65, 66, 128, 255, 256, 1 << 32, 1<<32 + 1, -1<<32 + 1, least, least + 1, greatest} {
				h.errs(run(thread, n), api.ErrRange)
				h.errs(back(n), api.ErrRange)
				for _, cost := range []int{0, 1, quantum, quantum + 1} {
					h.errs(costs(ahead(thread, n), cost), api.ErrRange)
				}
			}
		}
	}
}

// TestBackBegin: who is live is not asked.
func TestBackBegin(t *testing.T) {
	h := newHeld(t, usual(2), 0)
	for range 3 {
		h.wants(begin(), api.Answer{})
		h.wants(back(1), api.Answer{})
		h.errs(back(0), api.ErrRange)
	}
	h.do(start(0))
	h.fill(0)
	for range 3 {
		h.wants(begin(), api.Answer{})
		h.wants(back(64), api.Answer{})
	}
	h.do(stop(0))
	h.wants(begin(), api.Answer{})
}

// TestPoll: nothing is told, and nothing changes.
func TestPoll(t *testing.T) {
	h := newHeld(t, usual(2), 1)
	for range 3 {
		h.wants(poll(0), api.Answer{})
		h.errs(poll(1), api.ErrNone)
		h.wants(begin(), api.Answer{})
	}
	h.fill(0)
	h.wants(poll(0), api.Answer{})
}
