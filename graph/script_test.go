package graph_test

import (
	"slices"
	"testing"

	"scutage/api"
)

// rule makes numbers that look like any.
type rule int64

func (r *rule) next(n int) int {
	*r = *r*6364136223846793005 + 1442695040888963407
	return int(uint64(*r)>>33) % n
}

// one is any of these.
func one[E any](r *rule, l ...E) E {
	return l[r.next(len(l))]
}

// place is one of n places, seldom one that is none.
func (r *rule) place(n int) int {
	if n == 0 || r.next(12) == 0 {
		return one(r, n, n, n+1, r.next(256))
	}
	return r.next(n)
}

// config is any that may be.
func (r *rule) config() api.Config {
	return api.Config{Pages: 2 + r.next(63), Threads: 1 + r.next(8), Window: 64, Quantum: 1 + r.next(16), Target: r.next(751), Cap: r.next(65536), Tax: r.next(65), Chunk: 1 + r.next(16), Stack: 1 + r.next(256), Trigger: r.next(65)}
}

// leading is a place of thread t's values where a reference stands; any one, if there is none, and else seldom.
func (r *rule) leading(m *plain, t int) int {
	var l []int
	for i := range m.values[t] {
		if m.object(t, i) >= 0 {
			l = append(l, i)
		}
	}
	if len(l) == 0 || r.next(10) == 0 {
		return r.place(len(m.values[t]))
	}
	return one(r, l...)
}

// thread is any one, as often as not one that is live.
func (r *rule) thread(m *plain) int {
	if l := m.alive(); len(l) > 0 && r.next(10) > 0 {
		return one(r, l...)
	}
	return r.place(len(m.live))
}

// step is any one of those that make sense as often as not.
func (r *rule) step(m *plain) api.Step {
	kinds := []int{1, 1, 1, 2, 3, 3, 3, 3, 3, 4, 4, 5, 6, 6, 6, 7, 7, 8, 8, 8, 8, 8, 8, 8, 8, 9, 9, 9, 9, 9, 10, 10, 10, 10, 10, 10, 10, 11, 11, 11, 12, 12, 13, 14, 15, 16, 17}
	x := api.Step{Kind: one(r, kinds...), T: r.thread(m)}
	if x.T >= len(m.live) {
		return r.spoilt(r.with(x, m, 0))
	}
	return r.spoilt(r.with(x, m, x.T))
}

// with is x with the fields that its kind has, such as make sense for thread t.
func (r *rule) with(x api.Step, m *plain, t int) api.Step {
	switch x.Kind {
	case 3:
		x.N, x.Cost = r.whole(one[int64](r, 0, 1, 2, 3, 4, 5, 127)), r.cost(m)
	case 4:
		x.N = one(r, int64(r.next(5)), int64(-r.next(5)), r.whole(1<<40-1), r.whole(-1<<40))
	case 7:
		x.I = r.place(len(m.values[t]))
	case 9, 10, 12:
		x.I = r.leading(m, t)
		if x.Kind != 12 {
			x.F = r.place(m.fields(t, x.I))
		}
		if x.Kind == 10 {
			x.J = one(r, r.place(len(m.values[t])), r.leading(m, t))
		}
	case 11:
		x.I, x.J = r.place(len(m.values[t])), r.place(len(m.values[t]))
	case 13, 15, 16:
		x.N = r.whole(one(r, 1, 64, int64(1+r.next(64))))
		if x.Kind == 15 {
			x.Cost = r.cost(m)
		}
	}
	if x.Kind > lastOfThreads {
		x.T = 0
	}
	return x
}

// whole is n, seldom another one.
func (r *rule) whole(n int64) int64 {
	if r.next(8) > 0 {
		return n
	}
	return one(r, n+1, n-1, -n, n+1, n-1, n*2, 1<<62, least, greatest)
}

// cost is that of a unit, seldom one that may not be.
func (r *rule) cost(m *plain) int {
	if r.next(12) == 0 {
		return one(r, 0, m.quantum+1, 255)
	}
	return 1 + r.next(m.quantum)
}

// spoilt is x, seldom with a field changed.
func (r *rule) spoilt(x api.Step) api.Step {
	if r.next(25) > 0 {
		return x
	}
	n := one(r, -1, 1, 5, 255, 256, least, greatest)
	*one(r, &x.Kind, &x.T, &x.I, &x.F, &x.J, &x.Cost) = n
	return x
}

// no is OK, as often as not.
func (r *rule) no() api.Errno {
	if r.next(3) > 0 {
		return api.OK
	}
	return one(r, refusals()...)
}

// seen is how often steps of each kind had each answer's code.
type seen map[[2]int]int

// script does any steps, and holds all that is told against the plain one's, and against a twin's that is told those alone that have no error.
func (h *held) script(r *rule, steps int, met seen) {
	h.Helper()
	twin := h.clone()
	twin.quiet = true
	for range steps {
		x, no := r.step(h.plain), r.no()
		a := h.refused(x, no)
		met[[2]int{x.Kind, int(a.Code)}]++
		if a.Code == api.OK {
			if b := twin.refused(x, one(r, api.OK, no)); a != b {
				h.Fatalf("P4: Do(%v) = %v; without the steps that had errors it is %v", x, a, b)
			}
		}
		if r.next(300) == 0 {
			twin.look("without the steps that had errors")
		}
	}
	twin.look("without the steps that had errors")
}

// TestScripts: any steps of all kinds, of several threads, with any no.
func TestScripts(t *testing.T) {
	met := seen{}
	for i := range 60 {
		r := rule(i*7919 + 1)
		newHeld(t, r.config(), 0).script(&r, 900, met)
	}
	h := newHeld(t, usual(3), 3)
	h.quiet = true
	for h.graph.Made() < 3000 {
		h.do(alloc(0, 1), pop(0))
	}
	h.quiet = false
	r := rule(5)
	h.script(&r, 4000, met)
	for kind := 1; kind <= lastKind; kind++ {
		for _, e := range may(kind) {
			if met[[2]int{kind, int(e)}] < 5 {
				t.Errorf("of steps of kind %d, too few had the error %d", kind, e)
			}
		}
	}
}

// may are the codes that steps of this kind are answered, but for those that a collector answers.
func may(kind int) []api.Errno {
	l := []api.Errno{api.OK, api.ErrRange, api.ErrSyntax}
	if kind == 1 {
		l = append(l, api.ErrState)
	} else if kind <= lastOfThreads {
		l = append(l, api.ErrNone)
	}
	if kind == 3 || kind == 15 || kind == 17 {
		l = append(l, api.ErrTax, api.ErrFull)
	}
	if slices.Contains([]int{3, 4, 5, 6, 7, 9}, kind) {
		l = append(l, api.ErrCount)
	}
	if slices.Contains([]int{9, 10, 12}, kind) {
		l = append(l, api.ErrKind)
	}
	return l
}

// TestScriptsOfClones: graphs that were cloned in the midst go on apart, each with steps of its own.
func TestScriptsOfClones(t *testing.T) {
	for i := range 12 {
		r := rule(i*104729 + 3)
		all := []*held{newHeld(t, r.config(), 0)}
		for range 1200 {
			h := one(&r, all...)
			h.quiet = r.next(4) > 0
			h.refused(r.step(h.plain), r.no())
			if r.next(40) == 0 {
				all = append(all, h.clone())
			}
			if len(all) > 5 {
				all = all[r.next(3):]
			}
		}
		for _, h := range all {
			h.look("apart")
		}
	}
}

// TestTwice: what is told hangs on nothing but the config and the steps.
func TestTwice(t *testing.T) {
	r := rule(11)
	a, b := newHeld(t, usual(4), 0), newHeld(t, usual(4), 0)
	for range 1500 {
		x, no := r.step(a.plain), r.no()
		if one, two := a.refused(x, no), b.refused(x, no); one != two {
			t.Fatalf("P3: Do(%v) = %v, and %v", x, one, two)
		}
	}
}
