package machine_test

import (
	"testing"

	"scutage/api"
	"scutage/code"
)

// wrongSteps are steps that may not be, and why: in chapter 24's words.
func wrongSteps() map[api.Step]api.Errno {
	l := map[api.Step]api.Errno{{}: api.ErrKind}
	for _, kind := range []int{-1, 0, 18, 19, 255, 256 + 3, 1<<32 + 1, least, greatest} {
		l[api.Step{Kind: kind}] = api.ErrKind
		l[api.Step{Kind: kind, T: 256, N: 1}] = api.ErrKind
		l[api.Step{Kind: kind, T: 1, Cost: 1}] = api.ErrKind
	}
	for kind := 1; kind <= lastKind; kind++ {
		for _, n := range []int{-1, 256, 1 << 32, least, greatest} {
			// A field that the kind has, or has not: that its number is none is told first.
			for _, x := range []api.Step{{T: n}, {I: n}, {F: n}, {J: n}, {Cost: n}, {T: 255, Cost: n}, {I: n, F: 9, J: 9, Cost: 9, N: 9}} {
				x.Kind = kind
				l[x] = api.ErrRange
			}
		}
	}
	for _, x := range []api.Step{
		{Kind: 1, I: 1}, {Kind: 1, T: 9, N: 1}, {Kind: 2, F: 1}, {Kind: 2, T: 255, J: 1}, {Kind: 3, I: 1, Cost: 1}, {Kind: 3, T: 9, N: 200, J: 1},
		{Kind: 4, Cost: 1}, {Kind: 4, N: 1 << 50, I: 1}, {Kind: 5, N: 1}, {Kind: 5, T: 9, N: 1}, {Kind: 6, I: 1}, {Kind: 7, F: 1}, {Kind: 7, I: 99, J: 1}, {Kind: 8, I: 1}, {Kind: 8, N: -1},
		{Kind: 9, I: 99, J: 1}, {Kind: 9, N: 1}, {Kind: 10, I: 99, Cost: 1}, {Kind: 10, N: 1}, {Kind: 11, I: 99, F: 1}, {Kind: 12, I: 99, F: 1}, {Kind: 12, J: 1}, {Kind: 13, Cost: 1}, {Kind: 13, N: 99, I: 1},
		{Kind: 14, N: 1}, {Kind: 14, T: 9, I: 1}, {Kind: 15, N: 99, F: 1}, {Kind: 16, T: 1, N: 1}, {Kind: 16, Cost: 1, N: 1}, {Kind: 16, T: 9, N: 99}, {Kind: 17, T: 1}, {Kind: 17, N: 1}, {Kind: 17, Cost: 1},
	} {
		l[x] = api.ErrSyntax
	}
	return l
}

// TestStepsThatMayNotBe: code.Check's error comes ahead of all others, in any state, and nothing changes.
func TestStepsThatMayNotBe(t *testing.T) {
	c := usual(4, 3)
	c.Trigger = 64
	h := newHeld(t, c, 0)
	steps := wrongSteps()
	for x, e := range steps {
		if code.Check(x) != e {
			t.Fatalf("P26.1: Check(%v) = %d; want %d", x, code.Check(x), e)
		}
	}
	all := func() {
		t.Helper()
		h.quiet = true
		was := h.told()
		for x, e := range steps {
			h.wants(x, refuses(e))
		}
		h.quiet = false
		h.look("steps that may not be")
		if h.told() != was {
			t.Fatalf("P26.1: behind steps that may not be it is %v; it was %v", h.told(), was)
		}
	}
	all()
	h.do(start(0))
	all()
	h.do(alloc(0, 2), number(0, 5), write(0, 0, 1, 1), start(2))
	for _, phase := range []int{on, scan, tracing, drain, sweeping, idle} {
		h.to(phase)
		all()
	}
	h.fill(0, mostRoots)
	all()
	h.do(stop(0))
	all()
}

// good is a step of each kind that has no error, if its thread, where it has one, is live, holds a reference to the global object, and has room.
func good(kind int, t int) api.Step {
	x := api.Step{Kind: kind, T: t}
	switch kind {
	case 3, 15:
		x.N, x.Cost = 1, 1
	case 4, 13:
		x.N = 1
	case 16:
		x.N, x.T = 1, 0
	case 17:
		x.T = 0
	}
	return x
}

// bad are steps of each kind with a thread that have errors of their own, for one that holds nothing at all.
func bad(kind int, t int) []api.Step {
	switch kind {
	case 3:
		return []api.Step{alloc(t, 128), alloc(t, -1), costs(alloc(t, 1), 0), costs(alloc(t, 1), 200)}
	case 4:
		return []api.Step{number(t, 1<<40), number(t, least)}
	case 13:
		return []api.Step{run(t, 0), run(t, 65)}
	case 15:
		return []api.Step{ahead(t, 0), ahead(t, 65), costs(ahead(t, 1), 0), costs(ahead(t, 1), 5)}
	case 7, 8, 9, 10, 11, 12:
		x := good(kind, t)
		if kind != 8 {
			x.I = 200
		}
		return []api.Step{x}
	}
	return nil
}

// TestThreadsThatAreNot: each kind with a thread that is not there: ErrRange, whoever is live, and whatever is wrong besides.
func TestThreadsThatAreNot(t *testing.T) {
	for threads := 1; threads <= 8; threads++ {
		c := usual(4, threads)
		c.Trigger = 64
		h := newHeld(t, c, 0)
		all := func() {
			t.Helper()
			for kind := 1; kind <= lastOfThreads; kind++ {
				for _, thread := range []int{threads, threads + 1, 8, 9, 64, 127, 128, 255} {
					h.errs(api.ErrRange, good(kind, thread))
					h.errs(api.ErrRange, bad(kind, thread)...)
				}
			}
		}
		all()
		h.do(start(threads-1), global(threads-1))
		all()
		h.to(tracing)
		all()
		h.fill(threads-1, mostRoots)
		all()
	}
}

// TestThreadsThatAreLive: who is live can't start; who is not can do nothing else, and that is told ahead of the step's own errors.
func TestThreadsThatAreLive(t *testing.T) {
	c := usual(5, 3)
	c.Trigger = 64
	h := newHeld(t, c, 0)
	none := func(thread int) {
		t.Helper()
		for kind := 2; kind <= lastOfThreads; kind++ {
			h.errs(api.ErrNone, good(kind, thread))
			h.errs(api.ErrNone, bad(kind, thread)...)
		}
	}
	for thread := range 3 {
		none(thread)
	}
	h.wants(start(1), api.Answer{})
	none(0)
	none(2)
	h.errs(api.ErrState, start(1))
	h.do(global(1))
	h.errs(api.ErrState, start(1))
	h.holds(1, ref(0))
	h.fill(1, mostRoots)
	for _, phase := range []int{on, scan, tracing, drain, sweeping, idle} {
		h.to(phase)
		h.errs(api.ErrState, start(1))
		none(0)
		none(2)
	}
	for kind := 1; kind <= lastOfThreads; kind++ {
		h.wants(start(0), api.Answer{})
		h.wants(global(0), refers(0))
		if kind > 1 {
			h.do(good(kind, 0))
		}
		if kind != 2 {
			h.wants(stop(0), api.Answer{})
		}
		h.errs(api.ErrNone, stop(0))
		none(0)
	}
	h.do(stop(1))
	none(1)
}

// TestOwnErrors: of a live thread, all steps have errors of their own, in each phase.
func TestOwnErrors(t *testing.T) {
	c := usual(5, 2)
	c.Trigger = 64
	h := newHeld(t, c, 2)
	for _, phase := range []int{idle, on, scan, tracing, drain, sweeping} {
		h.to(phase)
		for kind := 1; kind <= lastOfThreads; kind++ {
			h.errs(api.ErrRange, bad(kind, 0)...)
		}
	}
}
