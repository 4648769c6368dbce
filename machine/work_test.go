package machine_test

import (
	"testing"

	"scutage/api"
)

// wide is a config of which all letters of a window may be the collector's.
func wide(pages int, threads int, quantum int) api.Config {
	return api.Config{Pages: pages, Threads: threads, Window: 64, Quantum: quantum, Cap: 100, Tax: 3, Chunk: 1, Stack: 8}
}

// farTicks are numbers of letters, or units, that may not be.
func farTicks() []int64 {
	return []int64{0, -1, -2, -64, 65, 66, 128, 255, 256, 257, 1 << 32, 1<<32 + 1, -1<<32 + 1, least, least + 1, greatest}
}

// TestRun: N at each end; so many letters of its own come.
func TestRun(t *testing.T) {
	for n := int64(1); n <= mostTicks; n++ {
		c := wide(8, 2, 1)
		h := newHeld(t, c, 2)
		h.to(sweeping)
		h.wants(ahead(0, 1), worked(1))
		h.counts(0, 1)
		h.wants(run(0, n), api.Answer{})
		if n < mostTicks {
			h.counts(0, 1)
			h.wants(run(0, mostTicks-n), api.Answer{})
		}
		h.counts(0, 0)
	}
	for _, phase := range []int{idle, on, scan, tracing, drain, sweeping} {
		h := newHeld(t, usual(4, 2), 2)
		h.to(phase)
		h.fill(0, mostRoots)
		h.wants(run(0, 1), api.Answer{})
		h.wants(run(0, 64), api.Answer{})
		for _, n := range farTicks() {
			h.errs(api.ErrRange, run(0, n))
		}
	}
}

// TestAheadEnds: N and Cost at each end, in each phase: whether there is a unit or not, N times Cost must be admitted.
func TestAheadEnds(t *testing.T) {
	for _, phase := range []int{idle, on, scan, tracing, drain, sweeping} {
		for _, quantum := range []int{1, 2, 3, 8, 15, 16} {
			h := newHeld(t, wide(64, 2, quantum), 2)
			h.to(phase)
			for _, n := range farTicks() {
				for _, cost := range []int{0, 1, quantum, quantum + 1} {
					h.errs(api.ErrRange, costs(ahead(0, n), cost))
				}
			}
			for _, n := range []int64{1, 2, 4, 63, 64} {
				h.errs(api.ErrRange, costs(ahead(0, n), 0), costs(ahead(0, n), quantum+1), costs(ahead(0, n), 255))
				for _, cost := range []int{1, quantum} {
					h.rest()
					x := costs(ahead(0, n), cost)
					if int(n)*cost > 64 {
						h.errs(api.ErrTax, x)
					} else if a := h.step(x); a.Code != api.OK {
						t.Fatalf("P26.1: Step(%v) = %v", x, a)
					}
				}
			}
		}
	}
}

// TestAheadTime: what the window leaves, to the letter, for each cost.
func TestAheadTime(t *testing.T) {
	h := newHeld(t, usual(30, 2), 2)
	h.to(sweeping)
	h.errs(api.ErrTax, ahead(0, 6), costs(ahead(0, 3), 2), costs(ahead(0, 2), 3), ahead(0, 64), costs(ahead(0, 64), 3))
	h.wants(ahead(0, 5), worked(5))
	h.counts(0, 5)
	for range 4 {
		h.errs(api.ErrTax, ahead(0, 1))
		h.do(run(0, 1))
	}
	h.errs(api.ErrTax, ahead(0, 1))
	h.do(run(0, 1))
	h.wants(ahead(0, 1), worked(1))
	h.counts(0, 5)
	h.errs(api.ErrTax, ahead(0, 5), costs(ahead(0, 2), 3))
	// Another thread has its own time.
	h.counts(1, 0)
	h.wants(costs(ahead(1, 1), 3), worked(1))
	h.counts(1, 3)
	h.errs(api.ErrTax, costs(ahead(1, 1), 3), ahead(1, 3))
	h.wants(ahead(1, 2), worked(2))
	h.errs(api.ErrTax, ahead(1, 1))
	h.counts(0, 5)
	h.is(sweeping, 9, 13)
}

// TestAheadDone: fewer units are there: just these are told, paid, and given the bank.
func TestAheadDone(t *testing.T) {
	h := newHeld(t, wide(8, 1, 4), 1)
	for _, n := range []int64{1, 16} {
		h.wants(costs(ahead(0, n), 4), api.Answer{})
		h.is(idle, 0, 0)
		h.counts(0, 0)
	}
	h.to(tracing)
	h.wants(costs(ahead(0, 3), 4), worked(3))
	h.is(tracing, 3, 3)
	h.counts(0, 12)
	h.wants(costs(ahead(0, 1), 2), worked(1))
	h.is(tracing, 4, 4)
	h.counts(0, 14)
	h.wants(costs(ahead(0, 12), 4), api.Answer{})
	h.is(drain, 4, 4)
	h.counts(0, 14)
	h.wants(costs(ahead(0, 12), 4), api.Answer{})
	h.is(drain, 4, 4)
	h.to(sweeping)
	h.wants(costs(ahead(0, 6), 4), worked(6))
	h.is(sweeping, 10, 10)
	h.wants(costs(ahead(0, 6), 4), worked(2))
	h.is(idle, 12, 12)
	h.counts(0, 46)
	// In phase 3 fewer are there, too: what comes behind is not the same phase's.
	h.to(tracing)
	h.rest()
	h.wants(ahead(0, 64), worked(4))
	h.is(drain, 16, 4)
	h.counts(0, 4)
}

// TestBack: N at each end, with no thread and with threads, in each phase; nobody's time is spent.
func TestBack(t *testing.T) {
	for _, phase := range []int{idle, on, scan, tracing, drain, sweeping} {
		h := newHeld(t, wide(64, 2, 4), 2)
		h.to(phase)
		for _, n := range farTicks() {
			h.errs(api.ErrRange, back(n))
		}
		for _, n := range []int64{1, 2, 63, 64} {
			h.do(back(n))
			h.counts(0, 0)
			h.counts(1, 0)
		}
	}
	h := newHeld(t, wide(64, 2, 4), 0)
	h.wants(back(64), api.Answer{})
	h.do(begin())
	h.is(tracing, 0, 0)
	h.wants(back(3), worked(3))
	h.is(tracing, 3, 3)
	// The trace's end is none; that a sweep begins then is no unit more of this step.
	h.wants(back(64), worked(1))
	h.is(sweeping, 4, 4)
	h.wants(back(63), worked(63))
	h.is(sweeping, 67, 67)
	h.wants(back(64), worked(1))
	h.is(idle, 68, 68)
	h.wants(back(64), api.Answer{})
	h.do(begin(), back(4), back(1))
	h.is(sweeping, 72, 4)
	h.wants(back(64), worked(64))
	h.is(idle, 100, 68)
	if got := h.machine.Lost(); got != 36 {
		t.Errorf("P26.1: Lost() = %d", got)
	}
}

// TestBankRoom: what there is no room for is lost; Done tells it.
func TestBankRoom(t *testing.T) {
	for room := range 12 {
		c := wide(12, 1, 1)
		c.Cap, c.Chunk = room+1, 4
		h := newHeld(t, c, 1)
		h.to(sweeping)
		h.is(sweeping, 1, 1)
		h.wants(back(9), worked(9))
		h.is(sweeping, min(10, room+1), 10)
		lost := max(0, 9-room)
		if got := h.machine.Lost(); got != int64(lost) {
			t.Fatalf("P26.1: Lost() = %d; want %d", got, lost)
		}
		h.wants(ahead(0, 2), worked(2))
		h.is(sweeping, min(12, room+1), 12)
		h.counts(0, 2)
		if got := h.machine.Lost(); got != int64(max(0, 11-room)) {
			t.Fatalf("P26.1: Lost() = %d; want %d", got, max(0, 11-room))
		}
		// What is spent makes room.
		credit := min(3, room+1)
		h.wants(alloc(0, 31), taxed(refers(1), min(1, 3-credit), credit))
	}
}

// TestCap: banks that keep none, a few, and as many as can be.
func TestCap(t *testing.T) {
	for _, most := range []int{0, 1, 63, 64, 65, 255, 256, 65534, 65535} {
		c := wide(64, 1, 1)
		c.Cap = most
		h := newHeld(t, c, 0)
		h.quiet = true
		units := 0
		for units <= most+100 {
			h.do(begin(), back(64), back(64))
			units += 68
			h.is(idle, min(most, units), 68)
			if got := h.machine.Lost(); got != int64(max(0, units-most)) {
				t.Fatalf("P26.1: Lost() = %d; want %d", got, max(0, units-most))
			}
		}
		h.look("as full as can be")
		if got := h.machine.Cycles(); got != units/68 {
			t.Fatalf("P26.1: Cycles() = %d; want %d", got, units/68)
		}
	}
}

// TestBegin: in phase 0 a cycle begins, in all others it is an error; with live threads, and without.
func TestBegin(t *testing.T) {
	for live := range 3 {
		h := newHeld(t, usual(6, 2), live)
		for cycle := range 3 {
			h.is(idle, h.machine.Balance(), h.machine.Units())
			h.wants(begin(), api.Answer{})
			if got := h.machine.Units(); got != 0 {
				t.Fatalf("P26.1: behind begin Units() = %d", got)
			}
			for _, phase := range []int{on, scan, tracing, drain, sweeping} {
				if live == 0 && phase != tracing && phase != sweeping {
					continue
				}
				h.to(phase)
				h.errs(api.ErrState, begin(), begin())
			}
			h.to(idle)
			if got := h.machine.Cycles(); got != cycle+1 {
				t.Fatalf("P26.1: Cycles() = %d; want %d", got, cycle+1)
			}
		}
	}
}

// letters is how many letters came behind the one of the collector's that thread 0 has, the window being 64.
func (h *held) letters() int {
	h.Helper()
	h.counts(0, 1)
	for n := range mostTicks + 1 {
		if h.machine.Count(0) == 0 {
			return mostTicks - n
		}
		h.do(run(0, 1))
	}
	h.Fatal("P21: the collector's letter stays")
	return 0
}

// TestLetters: behind each step of kinds 3 to 12 that is OK comes one letter of the thread's own, behind run's as many as it tells; behind no other step, and no error.
func TestLetters(t *testing.T) {
	for _, x := range []struct {
		want int
		l    []api.Step
	}{
		{1, []api.Step{alloc(0, 1)}},
		{1, []api.Step{alloc(0, 31)}},
		{1, []api.Step{number(0, 4)}},
		{1, []api.Step{nothing(0)}},
		{1, []api.Step{global(0)}},
		{1, []api.Step{again(0, 1)}},
		{1, []api.Step{pop(0)}},
		{1, []api.Step{read(0, 0, 0)}},
		{1, []api.Step{write(0, 0, 0, 1)}},
		{1, []api.Step{same(0, 0, 1)}},
		{1, []api.Step{size(0, 0)}},
		{1, []api.Step{run(0, 1)}},
		{40, []api.Step{run(0, 40)}},
		{63, []api.Step{run(0, 63)}},
		{3, []api.Step{alloc(0, 1), alloc(0, 1), pop(0)}},
		{0, []api.Step{poll(0)}},
		{0, []api.Step{back(1)}},
		{0, []api.Step{stop(0), start(0)}},
		{0, []api.Step{alloc(1, 1), number(1, 4), nothing(1), global(1), pop(1), run(1, 9), poll(1), ahead(1, 1), stop(1)}},
	} {
		h := newHeld(t, wide(30, 2, 2), 2)
		h.do(alloc(0, 1), number(0, 5))
		h.to(sweeping)
		h.do(ahead(0, 1))
		h.do(x.l...)
		if got := h.letters(); got != x.want {
			t.Errorf("P26.1: behind %v %d letters of its own came; want %d", x.l, got, x.want)
		}
	}
}

// TestNoLetters: behind errors no letter comes.
func TestNoLetters(t *testing.T) {
	h := newHeld(t, wide(4, 2, 2), 1)
	h.do(alloc(0, 1), number(0, 5))
	h.to(sweeping)
	h.do(ahead(0, 1))
	for _, x := range []struct {
		e api.Errno
		x api.Step
	}{
		{api.ErrRange, alloc(0, 128)}, {api.ErrRange, costs(alloc(0, 1), 3)}, {api.ErrRange, number(0, 1<<40)}, {api.ErrRange, again(0, 2)},
		{api.ErrRange, read(0, 2, 0)}, {api.ErrKind, read(0, 1, 0)}, {api.ErrRange, read(0, 0, 1)}, {api.ErrRange, write(0, 0, 0, 2)}, {api.ErrKind, write(0, 1, 0, 0)},
		{api.ErrRange, same(0, 0, 2)}, {api.ErrKind, size(0, 1)}, {api.ErrRange, run(0, 65)}, {api.ErrRange, run(0, 0)}, {api.ErrRange, ahead(0, 0)}, {api.ErrTax, costs(ahead(0, 64), 2)},
		{api.ErrState, start(0)}, {api.ErrRange, start(2)}, {api.ErrNone, number(1, 1)}, {api.ErrSyntax, api.Step{Kind: 5, N: 1}}, {api.ErrState, begin()}, {api.ErrRange, back(65)},
	} {
		h.errs(x.e, x.x)
	}
	if got := h.letters(); got != 0 {
		t.Errorf("P26.1: behind errors %d letters came", got)
	}
	for _, values := range []int{0, mostRoots} {
		h = newHeld(t, wide(4, 2, 2), 1)
		h.fill(0, values)
		h.to(sweeping)
		h.do(ahead(0, 1))
		if values == 0 {
			h.errs(api.ErrRange, pop(0))
		} else {
			h.errs(api.ErrCount, nothing(0), global(0), number(0, 3), again(0, 0), alloc(0, 3))
		}
		if got := h.letters(); got != 0 {
			t.Errorf("P26.1: behind errors %d letters came", got)
		}
	}
}

// TestLettersOfStopped: a thread that has stopped, and starts again, has the letters that it had.
func TestLettersOfStopped(t *testing.T) {
	c := usual(20, 2)
	c.Cap = 0
	h := newHeld(t, c, 2)
	h.to(sweeping)
	h.do(ahead(0, 4), ahead(1, 2), stop(0))
	h.counts(0, 4)
	h.do(run(1, 10))
	h.counts(0, 4)
	h.do(start(0))
	h.counts(0, 4)
	h.errs(api.ErrTax, ahead(0, 2), alloc(0, 31))
	h.do(ahead(0, 1), run(0, 5))
	h.counts(0, 5)
	h.do(run(0, 1))
	h.counts(0, 4)
}
