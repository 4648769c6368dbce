package machine_test

import (
	"testing"

	"scutage/api"
)

// inPhases does this with a machine of that config with so many live threads, in each phase.
func inPhases(t *testing.T, c api.Config, live int, does func(h *held)) {
	t.Helper()
	for _, phase := range []int{idle, on, scan, tracing, drain, sweeping} {
		h := newHeld(t, c, live)
		h.to(phase)
		does(h)
	}
}

// TestStartStop: a thread starts without values, and has none when it has stopped; what it held can't be reached then, and stays till a cycle frees it.
func TestStartStop(t *testing.T) {
	inPhases(t, usual(9, 4), 1, func(h *held) {
		h.wants(start(2), api.Answer{})
		h.wants(start(3), api.Answer{})
		h.do(alloc(2, 1), number(2, 7), write(2, 0, 0, 1))
		h.holds(2, ref(1), num(7))
		h.wants(stop(2), api.Answer{})
		h.holds(2)
		h.kept(0, 1)
		h.wants(start(2), api.Answer{})
		h.holds(2)
		h.errs(api.ErrRange, pop(2), again(2, 0))
		for range 3 {
			h.fill(2, mostRoots)
			h.errs(api.ErrCount, nothing(2))
			h.do(stop(2), start(2))
			h.holds(2)
		}
		h.to(idle)
		h.do(begin())
		h.to(idle)
		h.kept(0)
	})
}

// TestStopLeads: the last one that has not confirmed stops: a phase leads to the next one; so does a poll of the last one, and a thread that starts keeps no phase.
func TestStopLeads(t *testing.T) {
	for _, last := range []api.Step{stop(2), poll(2)} {
		h := newHeld(t, usual(9, 3), 3)
		h.do(begin(), poll(0), poll(1))
		h.is(on, 0, 0)
		h.do(last)
		h.is(scan, 0, 0)
		h.do(poll(0), poll(1))
		if last.Kind == 14 {
			h.is(scan, 0, 0)
			h.do(last)
		} else {
			h.do(start(2))
		}
		h.is(tracing, 0, 0)
		h.do(back(64), poll(0), poll(0), poll(1))
		h.is(drain, 4, 4)
		h.do(last)
		h.is(sweeping, 4, 4)
	}
}

// TestNumber: the numbers at each end; that one is none is told ahead of their number.
func TestNumber(t *testing.T) {
	inPhases(t, usual(4, 1), 1, func(h *held) {
		for _, n := range []int64{-1 << 40, -1<<40 + 1, -2049, -1, 0, 1, 2047, 2048, 1 << 31, 1 << 32, 1<<40 - 2, 1<<40 - 1} {
			h.wants(number(0, n), tells(n))
			h.holds(0, num(n))
			h.wants(pop(0), tells(n))
		}
		wrong := []int64{-1<<40 - 1, -1<<40 - 2, 1 << 40, 1<<40 + 1, 1 << 41, -1 << 41, 1 << 62, least, greatest}
		for _, n := range wrong {
			h.errs(api.ErrRange, number(0, n))
		}
		h.fill(0, mostRoots-1)
		h.wants(number(0, mostNumber-1), tells(mostNumber-1))
		for _, n := range wrong {
			h.errs(api.ErrRange, number(0, n))
		}
		h.errs(api.ErrCount, number(0, 0), number(0, mostNumber-1), number(0, -mostNumber))
	})
}

// TestPushed: what each of the kinds pushes, and tells; with 15 values one more may be, with 16 not.
func TestPushed(t *testing.T) {
	inPhases(t, usual(12, 2), 2, func(h *held) {
		h.wants(nothing(0), api.Answer{})
		h.wants(global(0), refers(0))
		h.wants(number(0, 0), tells(0))
		h.do(alloc(1, 3), pop(1))
		h.rest()
		h.makes(alloc(0, 3), 2)
		h.wants(again(0, 0), api.Answer{})
		h.wants(again(0, 1), refers(0))
		h.wants(again(0, 2), tells(0))
		h.wants(again(0, 3), refers(2))
		h.do(write(0, 3, 1, 2), write(0, 3, 2, 3))
		h.wants(read(0, 3, 0), api.Answer{})
		h.wants(read(0, 7, 1), tells(0))
		h.wants(read(0, 3, 2), refers(2))
		h.holds(0, api.Value{}, ref(0), num(0), ref(2), api.Value{}, ref(0), num(0), ref(2), api.Value{}, num(0), ref(2))
		pushes := []api.Step{alloc(0, 1), number(0, 3), nothing(0), global(0), again(0, 3), read(0, 3, 1)}
		for _, x := range pushes {
			h.fill(0, mostRoots-1)
			h.rest()
			h.do(x)
			h.errs(api.ErrCount, pushes...)
			h.empty(0, 12)
		}
		// Full is the thread, not the machine.
		h.fill(0, mostRoots)
		h.wants(nothing(1), api.Answer{})
	})
}

// makes wants a step to tell a reference to that object, whatever it costs.
func (h *held) makes(x api.Step, serial int64) {
	h.Helper()
	if a := h.step(x); a.Code != api.OK || a.Kind != 2 || a.N != serial {
		h.Fatalf("P26.1: Step(%v) = %v; want a reference to %d", x, a, serial)
	}
}

// TestAgain: I at each end, of each number of values; that it is none is told ahead of their number.
func TestAgain(t *testing.T) {
	inPhases(t, usual(4, 1), 1, func(h *held) {
		h.errs(api.ErrRange, again(0, 0), again(0, 255))
		h.do(number(0, 100))
		for n := 1; n < mostRoots; n++ {
			for _, i := range []int{n, n + 1, 16, 17, 128, 255} {
				h.errs(api.ErrRange, again(0, i))
			}
			h.wants(again(0, 0), tells(100))
			h.do(pop(0), number(0, int64(100+n)))
			if n+1 < mostRoots {
				h.wants(again(0, n), tells(int64(100+n)))
				h.do(pop(0))
			}
		}
		for i := range mostRoots {
			h.errs(api.ErrCount, again(0, i))
		}
		h.errs(api.ErrRange, again(0, 16), again(0, 17), again(0, 128), again(0, 255))
		h.do(pop(0))
		h.errs(api.ErrRange, again(0, 15))
		h.wants(again(0, 14), tells(114))
	})
}

// TestPop: the topmost value first, until there is none.
func TestPop(t *testing.T) {
	inPhases(t, usual(6, 2), 2, func(h *held) {
		h.errs(api.ErrRange, pop(0))
		h.do(number(0, -5), nothing(0), global(0), alloc(0, 9), again(0, 0), number(1, 8))
		h.wants(pop(0), tells(-5))
		h.wants(pop(0), refers(1))
		h.wants(pop(0), refers(0))
		h.holds(0, num(-5), api.Value{})
		h.wants(pop(0), api.Answer{})
		h.wants(pop(0), tells(-5))
		h.errs(api.ErrRange, pop(0))
		h.holds(1, num(8))
		h.fill(0, mostRoots)
		for i := int64(mostRoots - 1); i >= 0; i-- {
			h.wants(pop(0), tells(i))
		}
		h.errs(api.ErrRange, pop(0))
	})
}

// TestRead: I, what it is, F, and room, in that order.
func TestRead(t *testing.T) {
	inPhases(t, usual(12, 1), 1, func(h *held) {
		h.errs(api.ErrRange, read(0, 0, 0), read(0, 255, 255))
		h.do(alloc(0, 0))
		h.rest()
		h.do(alloc(0, 1))
		h.rest()
		h.do(alloc(0, 127), number(0, 1), nothing(0), global(0), number(0, 2))
		for i, fields := range []int{0, 1, 127, -1, -1, 4, -1} {
			if fields < 0 {
				h.errs(api.ErrKind, read(0, i, 0), read(0, i, 255))
				continue
			}
			if fields > 0 {
				h.do(write(0, i, fields-1, 3))
				h.wants(read(0, i, fields-1), tells(1))
				h.do(pop(0))
			}
			h.errs(api.ErrRange, read(0, i, fields), read(0, i, fields+1), read(0, i, 128), read(0, i, 255))
		}
		h.errs(api.ErrRange, read(0, 7, 0), read(0, 8, 0), read(0, 15, 0), read(0, 16, 0), read(0, 255, 0))
		h.fill(0, mostRoots)
		h.errs(api.ErrRange, read(0, 16, 0), read(0, 0, 0), read(0, 1, 1), read(0, 5, 4))
		h.errs(api.ErrKind, read(0, 3, 0), read(0, 4, 255))
		h.errs(api.ErrCount, read(0, 1, 0), read(0, 2, 126), read(0, 5, 3))
	})
}

// TestWrite: I, what it is, F, and J, in that order; room is not asked for.
func TestWrite(t *testing.T) {
	inPhases(t, usual(12, 1), 1, func(h *held) {
		h.errs(api.ErrRange, write(0, 0, 0, 0), write(0, 255, 0, 0))
		h.do(alloc(0, 0))
		h.rest()
		h.do(alloc(0, 127), number(0, 1), nothing(0), global(0))
		h.errs(api.ErrRange, write(0, 5, 0, 0), write(0, 5, 255, 255), write(0, 16, 0, 0), write(0, 255, 0, 0))
		h.errs(api.ErrKind, write(0, 2, 0, 0), write(0, 3, 0, 0), write(0, 2, 255, 0), write(0, 3, 0, 255))
		h.errs(api.ErrRange, write(0, 0, 0, 0), write(0, 1, 127, 0), write(0, 1, 255, 0), write(0, 4, 4, 0), write(0, 4, 4, 255))
		h.errs(api.ErrRange, write(0, 1, 0, 5), write(0, 4, 3, 5), write(0, 1, 126, 15), write(0, 1, 126, 16), write(0, 1, 126, 255))
		h.wants(write(0, 1, 126, 2), api.Answer{})
		h.wants(write(0, 1, 0, 4), api.Answer{})
		h.wants(write(0, 4, 3, 1), api.Answer{})
		h.wants(write(0, 4, 0, 0), api.Answer{})
		h.fill(0, mostRoots)
		h.wants(write(0, 4, 1, 15), api.Answer{})
		h.errs(api.ErrRange, write(0, 4, 1, 16))
		h.empty(0, 5)
		h.wants(read(0, 4, 0), refers(1))
		h.wants(read(0, 4, 1), tells(15))
		h.wants(read(0, 4, 2), api.Answer{})
		h.wants(read(0, 4, 3), refers(2))
		h.wants(read(0, 8, 126), tells(1))
		h.wants(read(0, 8, 0), refers(0))
		// Written over, with each kind of value; into itself, too.
		for _, j := range []int{2, 3, 4, 1, 3, 2} {
			h.wants(write(0, 1, 5, j), api.Answer{})
			h.wants(same(0, j, j), tells(1))
			h.do(read(0, 1, 5))
			h.wants(same(0, j, 11), tells(1))
			h.do(pop(0))
		}
	})
}

// TestShared: what is written through one reference is read through another one, by another thread too.
func TestShared(t *testing.T) {
	inPhases(t, usual(6, 3), 3, func(h *held) {
		h.do(alloc(0, 2), again(0, 0), number(0, 5), write(0, 0, 1, 2))
		h.wants(read(0, 1, 1), tells(5))
		h.do(global(0), write(0, 4, 2, 1))
		h.do(number(1, 3), global(1))
		h.wants(read(1, 1, 2), refers(1))
		h.wants(read(1, 2, 1), tells(5))
		h.do(number(1, -6), write(1, 2, 1, 4), write(1, 2, 0, 2))
		h.wants(read(0, 0, 1), tells(-6))
		h.wants(read(0, 1, 0), refers(1))
		h.do(stop(0))
		h.do(global(2))
		h.wants(read(2, 0, 2), refers(1))
		h.wants(read(2, 1, 0), refers(1))
		h.wants(read(2, 2, 1), tells(-6))
		h.holds(1, num(3), ref(0), ref(1), num(5), num(-6))
	})
}

// TestSame: values are alike, if their kinds and numbers are.
func TestSame(t *testing.T) {
	inPhases(t, usual(6, 1), 1, func(h *held) {
		h.errs(api.ErrRange, same(0, 0, 0))
		h.do(alloc(0, 1), alloc(0, 1), number(0, 1), number(0, 1), number(0, -1), number(0, 0), nothing(0), nothing(0), global(0), global(0), again(0, 0), number(0, 2))
		// Which values are alike.
		groups := []int{1, 2, 3, 3, 4, 5, 6, 6, 7, 7, 1, 8}
		for i, a := range groups {
			for j, b := range groups {
				want := int64(0)
				if a == b {
					want = 1
				}
				h.wants(same(0, i, j), tells(want))
			}
			for _, n := range []int{len(groups), 15, 16, 255} {
				h.errs(api.ErrRange, same(0, i, n), same(0, n, i), same(0, n, n))
			}
		}
		h.fill(0, mostRoots)
		h.wants(same(0, 15, 0), tells(0))
		h.wants(same(0, 15, 15), tells(1))
		h.errs(api.ErrRange, same(0, 16, 15))
	})
}

// TestSize: of objects with no field and with as many as may be, and of the global one.
func TestSize(t *testing.T) {
	inPhases(t, usual(12, 1), 1, func(h *held) {
		h.errs(api.ErrRange, size(0, 0))
		for _, n := range []int64{0, 3, 127} {
			h.rest()
			h.do(alloc(0, n))
		}
		h.do(global(0), number(0, 3), nothing(0))
		for i, n := range []int64{0, 3, 127, 4} {
			h.wants(size(0, i), tells(n))
		}
		h.errs(api.ErrKind, size(0, 4), size(0, 5))
		h.errs(api.ErrRange, size(0, 6), size(0, 7), size(0, 16), size(0, 255))
		h.fill(0, mostRoots)
		h.wants(size(0, 2), tells(127))
		h.errs(api.ErrKind, size(0, 15))
		h.errs(api.ErrRange, size(0, 16))
	})
}

// TestPoll: nothing is told, whether it confirms or not; a thread that holds references leads them to stay.
func TestPoll(t *testing.T) {
	h := newHeld(t, usual(6, 2), 2)
	h.do(alloc(0, 2), alloc(1, 1), write(1, 0, 0, 0))
	h.wants(poll(0), api.Answer{})
	h.do(begin())
	for range 3 {
		h.wants(poll(1), api.Answer{})
		h.is(on, 0, 0)
	}
	h.wants(poll(0), api.Answer{})
	h.is(scan, 0, 0)
	h.do(alloc(0, 1), pop(0))
	h.wants(poll(1), api.Answer{})
	h.wants(poll(0), api.Answer{})
	h.is(tracing, 0, 0)
	h.do(pop(0))
	h.wants(poll(0), api.Answer{})
	h.to(idle)
	h.kept(0, 1, 2, 3)
	h.do(begin())
	h.to(idle)
	h.kept(0, 2)
}
