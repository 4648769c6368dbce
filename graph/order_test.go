package graph_test

import (
	"testing"

	"scutage/api"
	"scutage/code"
)

// wrongSteps are steps that may not be, and why: in chapter 24's words.
func wrongSteps() map[api.Step]api.Errno {
	l := map[api.Step]api.Errno{{}: api.ErrKind}
	for _, kind := range []int{-1, 0, 18, 19, 255, 256 + 3, 1<<32 + 1, least, greatest} {
		l[api.Step{Kind: kind}] = api.ErrKind
		l[api.Step{Kind: kind, T: 256, N: 1}] = api.ErrKind
		l[api.Step{Kind: kind, T: 1, Cost: 1}] = api.ErrKind
	}
	for kind := 1; kind <= lastKind; kind++ {
		for _, n := range []int{-1, 256, 1 << 32, least, greatest} {
			// A field that the kind has, or has not: that its number is none is told first.
			for _, x := range []api.Step{{T: n}, {I: n}, {F: n}, {J: n}, {Cost: n}, {T: 255, Cost: n}, {I: n, F: 9, J: 9, Cost: 9, N: 9}} {
				x.Kind = kind
				l[x] = api.ErrRange
			}
		}
	}
	for _, x := range []api.Step{
		{Kind: 1, I: 1}, {Kind: 1, T: 9, N: 1}, {Kind: 2, F: 1}, {Kind: 2, T: 255, J: 1}, {Kind: 3, I: 1, Cost: 1}, {Kind: 3, T: 9, N: 200, J: 1},
		{Kind: 4, Cost: 1}, {Kind: 4, N: 1 << 50, I: 1}, {Kind: 5, N: 1}, {Kind: 5, T: 9, N: 1}, {Kind: 6, I: 1}, {Kind: 7, F: 1}, {Kind: 7, I: 99, J: 1}, {Kind: 8, I: 1}, {Kind: 8, N: -1},
		{Kind: 9, I: 99, J: 1}, {Kind: 9, N: 1}, {Kind: 10, I: 99, Cost: 1}, {Kind: 10, N: 1}, {Kind: 11, I: 99, F: 1}, {Kind: 12, I: 99, F: 1}, {Kind: 12, J: 1}, {Kind: 13, Cost: 1}, {Kind: 13, N: 99, I: 1},
		{Kind: 14, N: 1}, {Kind: 14, T: 9, I: 1}, {Kind: 15, N: 99, F: 1}, {Kind: 16, T: 1, N: 1}, {Kind: 16, Cost: 1, N: 1}, {Kind: 16, T: 9, N: 99}, {Kind: 17, T: 1}, {Kind: 17, N: 1}, {Kind: 17, Cost: 1},
	} {
		l[x] = api.ErrSyntax
	}
	return l
}

// TestStepsThatMayNotBe: code.Check's error comes ahead of all others, in any state, and nothing changes.
func TestStepsThatMayNotBe(t *testing.T) {
	h := newHeld(t, usual(3), 0)
	steps := wrongSteps()
	for x, e := range steps {
		if code.Check(x) != e {
			t.Fatalf("P25.1: Check(%v) = %d; want %d", x, code.Check(x), e)
		}
	}
	all := func() {
		for x, e := range steps {
			h.quiet = true
			h.wants(x, refuses(e))
			h.wantsWith(x, api.ErrFull, refuses(e))
			h.quiet = false
		}
		h.look("steps that may not be")
	}
	all()
	h.do(start(0))
	all()
	h.do(alloc(0, 2), number(0, 5), write(0, 0, 1, 1), start(2))
	all()
	h.fill(0)
	all()
	h.do(stop(0))
	all()
}

// good is a step of each kind with a thread that one may do that holds a reference to the global object, and room.
func good(kind int, t int) api.Step {
	x := api.Step{Kind: kind, T: t}
	switch kind {
	case 3, 15:
		x.N, x.Cost = 1, 1
	case 4, 13:
		x.N = 1
	}
	return x
}

// bad are steps of each kind with a thread that have errors of their own, one that holds nothing at all.
func bad(kind int, t int) []api.Step {
	switch kind {
	case 3:
		return []api.Step{alloc(t, 128), alloc(t, -1), costs(alloc(t, 1), 0), costs(alloc(t, 1), 200)}
	case 4:
		return []api.Step{number(t, 1<<40), number(t, least)}
	case 13:
		return []api.Step{run(t, 0), run(t, 65)}
	case 15:
		return []api.Step{ahead(t, 0), ahead(t, 65), costs(ahead(t, 1), 0), costs(ahead(t, 1), 5)}
	case 7, 8, 9, 10, 11, 12:
		x := good(kind, t)
		if kind != 8 {
			x.I = 200
		}
		return []api.Step{x}
	}
	return nil
}

// TestThreadsThatAreNot: each kind with a thread that is not there: ErrRange, whoever is live, and whatever is wrong besides.
func TestThreadsThatAreNot(t *testing.T) {
	for threads := 1; threads <= 8; threads++ {
		h := newHeld(t, usual(threads), 0)
		all := func() {
			for kind := 1; kind <= lastOfThreads; kind++ {
				for _, thread := range []int{threads, threads + 1, 8, 9, 64, 127, 128, 255} {
					h.errs(good(kind, thread), api.ErrRange)
					for _, x := range bad(kind, thread) {
						h.errs(x, api.ErrRange)
					}
				}
			}
		}
		all()
		h.do(start(threads-1), global(threads-1))
		all()
		h.fill(threads - 1)
		all()
	}
}

// TestThreadsThatAreLive: who is live can't start; who is not can do nothing else, and that is told ahead of the step's own errors.
func TestThreadsThatAreLive(t *testing.T) {
	h := newHeld(t, usual(3), 0)
	none := func(thread int) {
		t.Helper()
		for kind := 2; kind <= lastOfThreads; kind++ {
			h.errs(good(kind, thread), api.ErrNone)
			for _, x := range bad(kind, thread) {
				h.errs(x, api.ErrNone)
			}
		}
	}
	for thread := range 3 {
		none(thread)
	}
	h.wants(start(1), api.Answer{})
	none(0)
	none(2)
	h.errs(start(1), api.ErrState)
	h.do(global(1))
	h.errs(start(1), api.ErrState)
	h.holds(1, ref(0))
	h.fill(1)
	h.errs(start(1), api.ErrState)
	none(0)
	none(2)
	for kind := 1; kind <= lastOfThreads; kind++ {
		h.wants(start(0), api.Answer{})
		h.wants(global(0), refers(0))
		if kind > 1 {
			if got := h.refused(good(kind, 0), api.OK); got.Code != api.OK {
				t.Fatalf("P25.1: Do(%v) = %v", good(kind, 0), got)
			}
		}
		if kind != 2 {
			h.wants(stop(0), api.Answer{})
		}
		h.errs(stop(0), api.ErrNone)
		none(0)
	}
	h.do(stop(1))
	none(1)
}

// TestOwnErrors: of a live thread, all steps have errors of their own.
func TestOwnErrors(t *testing.T) {
	h := newHeld(t, usual(2), 1)
	for kind := 1; kind <= lastOfThreads; kind++ {
		for _, x := range bad(kind, 0) {
			h.errs(x, api.ErrRange)
		}
	}
}

// TestNo: alloc, ahead and begin answer no alone, any number, and nothing changes.
func TestNo(t *testing.T) {
	h := newHeld(t, usual(2), 1)
	all := func() {
		t.Helper()
		for _, no := range refusals() {
			h.wantsWith(alloc(0, 0), no, refuses(no))
			h.wantsWith(costs(alloc(0, 127), 4), no, refuses(no))
			h.wantsWith(ahead(0, 1), no, refuses(no))
			h.wantsWith(costs(ahead(0, 64), 4), no, refuses(no))
			h.wantsWith(begin(), no, refuses(no))
		}
	}
	all()
	h.do(alloc(0, 2), number(0, 3), write(0, 0, 0, 0))
	all()
	for len(h.plain.values[0]) < mostRoots-1 {
		h.do(nothing(0))
	}
	all()
	h.wants(alloc(0, 3), refers(2))
	// Without room it is not asked what a collector would answer; ahead and begin need none.
	h.errs(alloc(0, 3), api.ErrCount)
	for _, no := range refusals() {
		h.wantsWith(ahead(0, 1), no, refuses(no))
		h.wantsWith(begin(), no, refuses(no))
	}
	h.do(stop(0))
	h.errs(alloc(0, 3), api.ErrNone)
	h.errs(ahead(0, 3), api.ErrNone)
	for _, no := range refusals() {
		h.wantsWith(begin(), no, refuses(no))
	}
	h.wants(begin(), api.Answer{})
}

// TestNoOfOthers: no other kind asks what no is.
func TestNoOfOthers(t *testing.T) {
	for _, no := range refusals() {
		h := newHeld(t, usual(2), 0)
		for _, x := range []struct {
			step api.Step
			want api.Answer
		}{
			{start(0), api.Answer{}},
			{start(0), refuses(api.ErrState)},
			{stop(1), refuses(api.ErrNone)},
			{number(0, -9), tells(-9)},
			{nothing(0), api.Answer{}},
			{global(0), refers(0)},
			{again(0, 0), tells(-9)},
			{again(0, 4), refuses(api.ErrRange)},
			{write(0, 2, 3, 0), api.Answer{}},
			{write(0, 1, 3, 0), refuses(api.ErrKind)},
			{read(0, 2, 3), tells(-9)},
			{read(0, 2, 4), refuses(api.ErrRange)},
			{same(0, 0, 4), tells(1)},
			{size(0, 2), tells(4)},
			{pop(0), tells(-9)},
			{run(0, 64), api.Answer{}},
			{run(0, 65), refuses(api.ErrRange)},
			{poll(0), api.Answer{}},
			{back(64), api.Answer{}},
			{back(0), refuses(api.ErrRange)},
			{stop(0), api.Answer{}},
		} {
			h.wantsWith(x.step, no, x.want)
		}
	}
}
