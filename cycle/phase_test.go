package cycle_test

import (
	"slices"
	"testing"

	"scutage/api"
)

// laid is an idle collector of six pages and four threads, of which the first three are live: thread 0 holds a list of three objects, thread 1 one of two, thread 2 one object, the global object refers to one, and two can't be reached.
type laid struct {
	*held
	// Each list's objects, the first one first; own are what the global object leads to, lone what nothing does.
	lists [3][]int
	own   []int
	lone  []int
}

func newLaid(t *testing.T) *laid {
	t.Helper()
	h := &laid{held: newHeld(t, roomy(6, 4, 2, 3), 3)}
	h.quiet = true
	for thread, n := range []int{3, 2, 1} {
		h.lists[thread] = h.list(thread, n)
		h.hold(thread, h.lists[thread][0])
	}
	h.own = h.list(2, 1)
	h.set(2, h.cycle.Global(), 2, ref(h.own[0]))
	h.lone = h.list(1, 2)
	h.quiet = false
	h.look("laid")
	return h
}

// list makes n objects of three fields, each of which refers to the one behind it by its field 1.
func (h *held) list(thread int, n int) []int {
	h.Helper()
	var l []int
	for i := range n {
		a := h.make(thread, num(int64(i)), api.Value{}, num(-7))
		if i > 0 {
			h.set(thread, l[i-1], 1, ref(a))
		}
		l = append(l, a)
	}
	return l
}

// reachable are the objects that can be reached, but for the global one.
func (h *laid) reachable() []int {
	return slices.Concat(h.lists[0], h.lists[1], h.lists[2], h.own)
}

// TestBegin: in each phase: true of the idle one alone, and then Units is 0 again, and all live threads are behind.
func TestBegin(t *testing.T) {
	for _, s := range stages(6) {
		h := newLaid(t)
		h.whole()
		h.reach(s)
		units := h.cycle.Units()
		if got := h.begin(); got != (s.phase == idle) {
			t.Fatalf("P23.1: at %v, Begin() = %t", s, got)
		}
		if s.phase != idle {
			if h.cycle.Phase() != s.phase || h.cycle.Units() != units {
				t.Fatalf("P23.1: at %v, Begin changes something", s)
			}
		} else if h.cycle.Phase() != on || h.cycle.Units() != 0 {
			t.Fatalf("P23.1: behind Begin, Phase() = %d, Units() = %d", h.cycle.Phase(), h.cycle.Units())
		}
		for thread := range 4 {
			if s.phase == idle && h.cycle.Poll(thread) != (thread < 3) {
				t.Fatalf("P23.1: behind Begin, thread %d is not behind, or is not live", thread)
			}
		}
	}
}

// TestUnitsAgain: Units counts since the last Begin, over all phases, and stays when the cycle has ended.
func TestUnitsAgain(t *testing.T) {
	h := newLaid(t)
	for i := range 4 {
		if h.cycle.Units() == 0 != (i == 0) {
			t.Fatalf("P23.2: behind %d cycles, Units() = %d", i, h.cycle.Units())
		}
		h.begin()
		done := 0
		for h.plain.phase != idle {
			if h.cycle.Units() != done {
				t.Fatalf("P23.2: behind %d units, Units() = %d", done, h.cycle.Units())
			}
			h.poll(h.plain.behind()...)
			if h.unit() {
				done++
			}
		}
		if h.cycle.Units() != done || done <= 6 || h.cycle.Cycles() != i+1 {
			t.Fatalf("P23.2: behind %d units, Units() = %d, Cycles() = %d", done, h.cycle.Units(), h.cycle.Cycles())
		}
		for range 3 {
			h.unit()
		}
		h.poll(0, 1, 2)
		if h.cycle.Units() != done {
			t.Fatalf("P23.2: Units() = %d; want %d", h.cycle.Units(), done)
		}
	}
}

// TestWithoutThreads: Begin leads to 3 at once, and, when there is nothing to do, 3 to 5.
func TestWithoutThreads(t *testing.T) {
	for _, live := range []int{0, 1, 4} {
		h := newHeld(t, roomy(5, 4, 1, 1), live)
		var own []int
		if live > 0 {
			own = h.list(0, 4)
			h.list(0, 3)
			h.hold(live-1, own[3])
			h.set(0, h.cycle.Global(), 0, ref(own[0]))
		}
		for thread := range live {
			h.detach(thread)
		}
		for i := range 3 {
			if !h.begin() || h.cycle.Phase() != tracing || !h.cycle.Marked(h.cycle.Global()) || h.cycle.Units() != 0 {
				t.Fatalf("P23.1: without live threads Begin does not lead to 3, or the global object is not marked")
			}
			// The one that is none leads on to 5.
			h.units(greatest)
			h.units(greatest)
			if h.cycle.Phase() != idle || h.cycle.Cycles() != i+1 {
				t.Fatalf("P23.1: without live threads units alone lead to %d", h.cycle.Phase())
			}
			h.kept("without live threads", own...)
		}
		h.begin()
		for h.cycle.Phase() == tracing {
			if !h.unit() && (h.cycle.Phase() != sweeping || h.cycle.At() != 0) {
				t.Fatalf("P23.1: without live threads 3 leads to %d", h.cycle.Phase())
			}
		}
		h.refill()
	}
}

// TestLastConfirms: phases 1, 2 and 4 stay until the last live thread has confirmed, be it by its poll or by its going, whoever that is.
func TestLastConfirms(t *testing.T) {
	then := map[int]int{on: scan, scan: tracing, drain: sweeping}
	for _, threads := range []int{1, 2, 3, 8} {
		for live := 1; live < 1<<threads; live++ {
			for _, phase := range []int{on, scan, drain} {
				for ways := range 4 {
					if threads == 8 && (live*5+phase+ways)%23 != 0 {
						continue
					}
					h := newHeld(t, usual(3, threads), 0)
					h.quiet = true
					for thread := range threads {
						if live>>thread&1 == 1 {
							h.attach(thread)
						}
					}
					h.to(phase)
					h.quiet = false
					last := h.plain.behind()
					if ways&1 == 1 {
						slices.Reverse(last)
					}
					for i, thread := range last {
						if h.cycle.Phase() != phase {
							t.Fatalf("P23.1: of threads %v, %d have confirmed, and phase %d leads to %d", last, i, phase, h.cycle.Phase())
						}
						if ways&2 == 2 {
							h.detach(thread)
						} else if !h.poll(thread) {
							t.Fatalf("P23.1: of threads %v, %d is not behind in phase %d", last, thread, phase)
						}
					}
					want := then[phase]
					if phase == on && ways&2 == 2 {
						// Nobody is left who would be behind in 2.
						want = tracing
					}
					if got := h.cycle.Phase(); got != want {
						t.Fatalf("P23.1: all of threads %v have confirmed, and phase %d leads to %d; want %d", last, phase, got, want)
					}
					h.finish()
				}
			}
		}
	}
}

// TestComes: in each phase a thread that comes is live, holds nothing, and is not behind; the phase stays, and waits for the others alone.
func TestComes(t *testing.T) {
	for _, s := range stages(6) {
		h := newLaid(t)
		h.reach(s)
		if !h.attach(3) || !h.cycle.Live(3) || len(h.cycle.Roots(3)) != 0 || h.attach(3) {
			t.Fatalf("P23.1: at %v, thread 3 does not come, or is not as one that came", s)
		}
		if h.cycle.Phase() != s.phase || h.poll(3) {
			t.Fatalf("P23.1: at %v, when a thread came it is phase %d, or that thread is behind", s, h.cycle.Phase())
		}
		behind := h.plain.behind()
		if s.phase == on || s.phase == scan || s.phase == drain {
			if len(behind) != 3-len(s.agreed) {
				t.Fatalf("P23.1: at %v, %v are behind", s, behind)
			}
			h.poll(behind[:len(behind)-1]...)
			if h.cycle.Phase() != s.phase {
				t.Fatalf("P23.1: at %v, it does not wait for the last one that is behind", s)
			}
			h.attach(3)
			h.poll(behind[len(behind)-1])
			if h.cycle.Phase() == s.phase {
				t.Fatalf("P23.1: at %v, it waits for one that came", s)
			}
		}
		// In the next phase it is behind as any other one.
		h.hold(3, h.cycle.Global())
		h.finish()
		h.whole()
		h.kept("a thread came", h.reachable()...)
	}
}

// TestAttachNumbers: threads below 0, as many as there are and above can't come; nor go, nor do anything else.
func TestAttachNumbers(t *testing.T) {
	for threads := 1; threads <= 8; threads++ {
		h := newHeld(t, usual(4, threads), 0)
		h.make0()
		for _, thread := range append(far(), threads, threads+1, threads+7, 64) {
			h.nobody(thread)
		}
		for thread := range threads {
			h.nobodyYet(thread)
			if !h.attach(thread) || h.attach(thread) || !h.cycle.Live(thread) {
				t.Fatalf("P23.1: of %d, thread %d does not come, or comes twice", threads, thread)
			}
		}
		for _, thread := range append(far(), threads, threads+1, threads+7, 64) {
			h.nobody(thread)
		}
		h.to(scan)
		for _, thread := range append(far(), threads, threads+1) {
			h.nobody(thread)
		}
		for thread := range threads {
			if !h.detach(thread) || h.cycle.Live(thread) {
				t.Fatalf("P23.1: of %d, thread %d does not go", threads, thread)
			}
			h.nobodyYet(thread)
		}
		h.finish()
	}
}

// make0 lets thread 0 make an object, and go: it is the last one's that the global object refers to.
func (h *held) make0() {
	h.Helper()
	h.attach(0)
	a := h.make(0, num(3), ref(h.cycle.Global()))
	h.set(0, h.cycle.Global(), 0, ref(a))
	h.detach(0)
}

// nobody wants that there is no such thread.
func (h *held) nobody(thread int) {
	h.Helper()
	if h.attach(thread) {
		h.Fatalf("P23.1: Attach(%d) is true", thread)
	}
	h.nobodyYet(thread)
}

// nobodyYet wants that this thread is not live.
func (h *held) nobodyYet(thread int) {
	h.Helper()
	a := h.cycle.Global()
	if h.detach(thread) || h.poll(thread) || h.cycle.Live(thread) || len(h.cycle.Roots(thread)) != 0 {
		h.Fatalf("P23.1: thread %d, which is not live, goes, polls or holds something", thread)
	}
	if h.push(thread, num(1)) || h.push(thread, ref(a)) || h.write(thread, a, 0, num(1)) || h.write(thread, a, 1, ref(a)) {
		h.Fatalf("P23.2: thread %d, which is not live, pushes or writes", thread)
	}
	if v, ok := h.pop(thread); ok || v != (api.Value{}) {
		h.Fatalf("P23.2: thread %d, which is not live, pops %v", thread, v)
	}
	for _, n := range []int{4, 0, 31, 127, 128, -1} {
		if got, ok := h.cycle.Fast(thread, n); got != 0 || ok {
			h.Fatalf("P23.2: thread %d is not live, but Fast(%d) = %d, %t", thread, n, got, ok)
		}
		if got, e := h.cycle.Slow(thread, n); got != 0 || e != api.ErrRange {
			h.Fatalf("P23.2: thread %d is not live, but Slow(%d) = %d, %d", thread, n, got, e)
		}
	}
	h.look("nobody's calls")
}

// TestPoll: at each stage, by each thread: true just of a live one that is behind; what it shades.
func TestPoll(t *testing.T) {
	for _, s := range stages(6) {
		for thread := -1; thread <= 5; thread++ {
			h := newLaid(t)
			h.reach(s)
			marked := h.plain.marked()
			waits := s.phase == on || s.phase == scan || s.phase == drain
			want := waits && thread >= 0 && thread < 3 && !slices.Contains(s.agreed, thread)
			if got := h.poll(thread); got != want {
				t.Fatalf("P23.1: at %v, Poll(%d) = %t", s, thread, got)
			}
			if want && s.phase == scan {
				marked = append(marked, h.lists[thread][0])
			}
			if want && s.phase == on && len(s.agreed) == 2 {
				marked = append(marked, h.cycle.Global())
			}
			slices.Sort(marked)
			for a := range addresses {
				if h.cycle.Marked(a) != slices.Contains(marked, a) {
					t.Fatalf("P23.1: at %v, behind Poll(%d), Marked(%d) = %t", s, thread, a, h.cycle.Marked(a))
				}
			}
			if h.poll(thread) && (h.cycle.Phase() == s.phase || thread != 2) {
				t.Fatalf("P23.1: at %v, thread %d confirms twice", s, thread)
			}
			h.finish()
			if s.phase != idle {
				h.kept("polled", h.reachable()...)
			}
		}
	}
}

// orders are all orders of 0, 1 and 2.
func orders() [][]int {
	return [][]int{{0, 1, 2}, {0, 2, 1}, {1, 0, 2}, {1, 2, 0}, {2, 0, 1}, {2, 1, 0}}
}

// fan is an object of three fields that refer to one object each, l, that refers to one behind it by its field 1; in the order in which they were made, and nobody's.
func (h *held) fan() (top int, l []int, behind []int) {
	h.Helper()
	top = h.make(0, num(1), num(2), num(3))
	for i := range 3 {
		b := h.make(0, num(1))
		l = append(l, h.make(0, num(2), ref(b)))
		behind = append(behind, b)
		h.set(0, top, i, ref(l[i]))
	}
	return top, l, behind
}

// alone wants that all of l are marked, and nothing that is behind them.
func (h *held) alone(l []int, behind []int) {
	h.Helper()
	for i := range l {
		if !h.cycle.Marked(l[i]) || h.cycle.Marked(behind[i]) {
			h.Fatalf("P23.1: in phase %d, number %d, or what is behind it, is not marked as told", h.cycle.Phase(), i)
		}
	}
}

// topmost does a unit, and wants that just what is behind the last one for which there was room, of those that were shaded in order, is marked then.
func (h *held) topmost(behind []int, order []int, room int) {
	h.Helper()
	h.unit()
	last := min(room, len(order)) - 1
	for i, b := range order {
		if got := h.cycle.Marked(behind[b]); got != (i == last) {
			h.Fatalf("P23.1: shaded in the order %v, with room for %d, and one unit: behind number %d Marked = %t", order, room, b, got)
		}
	}
}

// TestScanOrder: in 2 a thread's references are shaded from the bottom on, each once: the one that waits on top is gone through first, and with little room the last ones are lost.
func TestScanOrder(t *testing.T) {
	for _, order := range orders() {
		for room := 1; room <= 5; room++ {
			h := newHeld(t, roomy(4, 2, 4, room), 2)
			_, l, behind := h.fan()
			h.push(0, num(int64(behind[0])))
			h.hold(0, l[order[0]], l[order[1]])
			h.push(0, api.Value{})
			h.hold(0, l[order[0]], l[order[2]], l[order[1]])
			h.begin()
			h.poll(1, 0, 0)
			h.alone(l, behind)
			h.poll(1)
			// The global object waits below all of them.
			h.topmost(behind, order, room-1)
			h.finish()
			h.kept("roots in order", append(l, behind...)...)
		}
	}
}

// TestScanAlone: in 2 nothing but the roots' references of the very thread is shaded: no number, nothing that was noted.
func TestScanAlone(t *testing.T) {
	h := newLaid(t)
	h.begin()
	h.poll(0, 1, 2)
	// Thread 0 notes the rest of its own list; of the lone ones it holds but the address, as a number.
	h.set(0, h.lists[0][0], 1, api.Value{})
	h.push(0, num(int64(h.lone[0])))
	h.poll(0)
	for _, a := range slices.Concat(h.lists[0][1:], h.lists[1], h.lists[2], h.own, h.lone) {
		if h.cycle.Marked(a) {
			t.Fatalf("P23.1: in 2, Poll of thread 0 marks %d", a)
		}
	}
	if !h.cycle.Marked(h.lists[0][0]) || !h.cycle.Marked(h.cycle.Global()) {
		t.Fatal("P23.1: in 2, what thread 0 holds, or the global object, is not marked")
	}
	h.finish()
	h.kept("what was noted stays this time", h.reachable()...)
	h.whole()
	h.kept("and goes next time", slices.Concat(h.lists[0][:1], h.lists[1], h.lists[2], h.own)...)
}

// TestDrainOrder: in 4 what stands in a thread's buffer is shaded in order; the buffer is empty then.
func TestDrainOrder(t *testing.T) {
	for _, order := range orders() {
		for room := 1; room <= 4; room++ {
			h := newHeld(t, roomy(5, 2, 8, room), 2)
			top, l, behind := h.fan()
			h.to(tracing)
			for _, i := range order {
				h.set(0, top, i, num(0))
				// Once more, which changes nothing, from another field.
				h.set(1, top, i, ref(l[i]))
				h.set(0, top, i, num(0))
			}
			h.units(greatest)
			if h.cycle.Phase() != drain || h.plain.marks[l[0]] {
				t.Fatal("P23.1: nothing is left to do, but it is not phase 4, or what was overwritten is marked")
			}
			h.poll(0)
			h.alone(l, behind)
			h.poll(1)
			h.topmost(behind, order, room)
			h.units(greatest)
			// The buffer is empty: nothing keeps it from being swept.
			h.poll(0, 1)
			if h.cycle.Phase() != sweeping {
				t.Fatalf("P23.1: drained twice, it is phase %d", h.cycle.Phase())
			}
			h.finish()
			h.kept("what was noted", append(l, behind...)...)
			h.whole()
			h.kept("nothing was noted")
		}
	}
}

// TestEmptied: that 1 leads to 2 empties all buffers: what stood there is nothing.
func TestEmptied(t *testing.T) {
	for last := range 3 {
		for _, goes := range []bool{false, true} {
			h := newLaid(t)
			h.begin()
			for thread := range 3 {
				if thread != last {
					h.poll(thread)
				}
			}
			// The rest of each list is noted by those who have confirmed, and by the one who has not.
			for thread := range 3 {
				h.set(thread, h.lists[0][0], 1, ref(h.lone[0]))
				h.set(thread, h.lists[0][0], 1, num(3))
				h.set(thread, h.lists[1][0], 1, ref(h.lists[0][1]))
				h.set(thread, h.lists[1][0], 1, num(4))
			}
			if goes {
				h.detach(last)
			} else {
				h.poll(last)
			}
			if h.cycle.Phase() != scan {
				t.Fatalf("P23.1: 1 leads to %d", h.cycle.Phase())
			}
			for _, a := range h.cycle.Objects() {
				if h.cycle.Marked(a) != (a == h.cycle.Global()) {
					t.Fatalf("P23.1: when 1 leads to 2, Marked(%d) = %t", a, h.cycle.Marked(a))
				}
			}
			if got, want := h.plain.behind(), h.plain.live(); !slices.Equal(got, want) {
				t.Fatalf("P23.1: in 2 %v are behind; want %v", got, want)
			}
			rounds := h.finish()
			if rounds > 3 {
				t.Fatalf("P23.1: of empty buffers there are %d rounds", rounds)
			}
			want := slices.Concat(h.own)
			for thread := range 3 {
				if thread != last || !goes {
					want = append(want, h.lists[thread][0])
				}
			}
			h.kept("noted in phase 1", want...)
		}
	}
}

// TestDrainLeads: 4 leads to 5, if all buffers are empty and the tracer has nothing to do; else to 3.
func TestDrainLeads(t *testing.T) {
	for _, c := range []struct {
		name string
		do   func(h *laid)
		want int
	}{
		{"nothing happens", func(h *laid) { h.poll(0, 1) }, sweeping},
		{"one that has confirmed notes something", func(h *laid) {
			h.poll(0, 1)
			h.set(0, h.lone[0], 1, api.Value{})
		}, tracing},
		{"one that has not confirmed notes something", func(h *laid) {
			h.poll(0, 1)
			h.set(2, h.lone[0], 1, api.Value{})
		}, tracing},
		{"one notes something, and confirms", func(h *laid) {
			h.set(0, h.lone[0], 1, num(1))
			h.poll(0, 1)
		}, tracing},
		{"one notes something, and goes", func(h *laid) {
			h.set(0, h.lone[0], 1, num(1))
			h.detach(0)
			h.poll(1)
		}, tracing},
		{"one that has confirmed notes something, and goes", func(h *laid) {
			h.poll(0, 1)
			h.set(1, h.lone[0], 1, num(1))
			h.detach(1)
		}, tracing},
		{"what is overwritten is marked", func(h *laid) {
			h.poll(0, 1)
			h.set(0, h.lists[0][0], 1, api.Value{})
			h.set(2, h.lists[1][0], 1, num(1))
		}, sweeping},
		{"what is overwritten is no reference", func(h *laid) {
			h.poll(1)
			h.set(0, h.lone[0], 0, ref(h.lone[1]))
			h.set(1, h.lone[1], 1, ref(h.lone[0]))
			h.poll(0)
		}, sweeping},
		{"an object is made", func(h *laid) {
			h.poll(0)
			h.make(1, num(1), num(2))
			h.make(0, slices.Repeat([]api.Value{num(1)}, 30)...)
			h.poll(1)
		}, sweeping},
		{"one comes", func(h *laid) {
			h.attach(3)
			h.poll(0, 1)
		}, sweeping},
		{"one comes, and notes something", func(h *laid) {
			h.poll(0, 1)
			h.attach(3)
			h.set(3, h.lone[0], 1, num(1))
		}, tracing},
		{"one comes, notes something, and goes", func(h *laid) {
			h.attach(3)
			h.set(3, h.lone[0], 1, num(1))
			h.detach(3)
			h.poll(0, 1)
		}, tracing},
		{"values are pushed and popped", func(h *laid) {
			h.poll(0, 1)
			h.hold(0, h.lists[1][0])
			h.pop(1)
		}, sweeping},
	} {
		for _, goes := range []bool{false, true} {
			h := newLaid(t)
			h.to(drain)
			if !h.cycle.Marked(h.lists[0][2]) || h.cycle.Marked(h.lone[0]) {
				t.Fatal("P23.1: in 4 not just what can be reached is marked")
			}
			c.do(h)
			if h.cycle.Phase() != drain {
				t.Fatalf("P23.1: %s: it does not wait for thread 2", c.name)
			}
			if goes {
				h.detach(2)
			} else {
				h.poll(2)
			}
			if h.cycle.Phase() != c.want {
				t.Fatalf("P23.1: %s: 4 leads to %d; want %d", c.name, h.cycle.Phase(), c.want)
			}
			if c.want == sweeping && h.cycle.At() != 0 {
				t.Fatalf("P23.1: %s: it sweeps from page %d on", c.name, h.cycle.At())
			}
			h.finish()
			h.whole()
			h.refill()
		}
	}
}

// TestUnit: at each stage: none in 0, 1, 2 and 4, and nothing changes; the tracer's in 3, the sweeper's in 5.
func TestUnit(t *testing.T) {
	for _, s := range stages(6) {
		h := newLaid(t)
		h.reach(s)
		units, cycles, at := h.cycle.Units(), h.cycle.Cycles(), h.cycle.At()
		got := h.unit()
		if got != (s.phase == tracing || s.phase == sweeping) {
			t.Fatalf("P23.1: at %v, Unit() = %t", s, got)
		}
		if !got {
			for range 3 {
				h.unit()
			}
			if h.cycle.Phase() != s.phase || h.cycle.Units() != units || h.cycle.Cycles() != cycles || h.cycle.At() != at {
				t.Fatalf("P23.1: at %v, Unit is none, but changes something", s)
			}
			continue
		}
		if h.cycle.Units() != units+1 {
			t.Fatalf("P23.2: at %v, behind a unit, Units() = %d; want %d", s, h.cycle.Units(), units+1)
		}
		if s.phase == tracing && (h.cycle.Phase() != tracing || h.cycle.At() != 6) || s.phase == sweeping && h.cycle.At() != at+1 {
			t.Fatalf("P23.1: at %v, behind a unit it is phase %d, At() = %d", s, h.cycle.Phase(), h.cycle.At())
		}
		if last := s.phase == sweeping && s.done == 5; last != (h.cycle.Phase() == idle) || last != (h.cycle.Cycles() == 1) {
			t.Fatalf("P23.1: at %v, behind a unit it is phase %d, Cycles() = %d", s, h.cycle.Phase(), h.cycle.Cycles())
		}
	}
}

// TestNothingToDo: in 3, with nothing to do, Unit is none, and leads to 4: all live threads are behind then.
func TestNothingToDo(t *testing.T) {
	h := newLaid(t)
	h.to(tracing)
	for h.unit() {
		if h.cycle.Phase() != tracing || h.poll(0) {
			t.Fatalf("P23.1: a unit led to phase %d, or thread 0 was behind", h.cycle.Phase())
		}
	}
	units := h.cycle.Units()
	if h.cycle.Phase() != drain || h.unit() || h.cycle.Units() != units {
		t.Fatalf("P23.1: with nothing to do 3 leads to %d, or none was counted", h.cycle.Phase())
	}
	if got := h.plain.behind(); !slices.Equal(got, []int{0, 1, 2}) {
		t.Fatalf("%v are behind", got)
	}
	if !h.poll(1) || !h.poll(0) || !h.poll(2) || h.cycle.Phase() != sweeping {
		t.Fatalf("P23.1: 4 leads to %d", h.cycle.Phase())
	}
	for p := range 6 {
		if h.cycle.At() != p || h.cycle.Phase() != sweeping || h.cycle.Cycles() != 0 || !h.unit() {
			t.Fatalf("P23.1: at page %d it is phase %d, At() = %d, Cycles() = %d", p, h.cycle.Phase(), h.cycle.At(), h.cycle.Cycles())
		}
	}
	if h.cycle.At() != 6 || h.cycle.Phase() != idle || h.cycle.Cycles() != 1 || h.unit() {
		t.Fatalf("P23.1: behind all pages it is phase %d, At() = %d, Cycles() = %d", h.cycle.Phase(), h.cycle.At(), h.cycle.Cycles())
	}
	h.kept("a cycle", h.reachable()...)
}

// TestSweepOnly: objects are freed by units of 5 alone, page by page.
func TestSweepOnly(t *testing.T) {
	h := newLaid(t)
	all := h.cycle.Objects()
	h.begin()
	for h.plain.phase != sweeping {
		h.poll(h.plain.behind()...)
		if h.plain.phase != sweeping {
			h.unit()
		}
		if !slices.Equal(h.cycle.Objects(), all) {
			t.Fatalf("P23.1: in phase %d objects are at %v; were at %v", h.cycle.Phase(), h.cycle.Objects(), all)
		}
	}
	for p := range 6 {
		h.unit()
		want := slices.DeleteFunc(slices.Clone(all), func(a int) bool { return a/pageWords <= p && slices.Contains(h.lone, a) })
		if !slices.Equal(h.cycle.Objects(), want) {
			t.Fatalf("P23.1: page %d is swept, and objects are at %v; want %v", p, h.cycle.Objects(), want)
		}
		for _, a := range all {
			if h.cycle.Marked(a) != (a/pageWords > p && !slices.Contains(h.lone, a)) {
				t.Fatalf("P23.1: page %d is swept, and Marked(%d) = %t", p, a, h.cycle.Marked(a))
			}
		}
	}
}

// TestDetach: at each stage: what stands in the thread's buffer is shaded in 2, 3 and 4 alone; its roots and pages are gone, the others' stay.
func TestDetach(t *testing.T) {
	for _, s := range stages(6) {
		for thread := range 4 {
			h := newLaid(t)
			h.reach(s)
			keeps := s.phase == scan || s.phase == tracing || s.phase == drain
			there := thread < 3 && h.plain.at[h.lone[0]] != nil
			if there {
				h.set(thread, h.lone[0], 1, num(9))
			}
			others := [4][]api.Value{}
			for other := range 4 {
				if other != thread {
					others[other] = h.cycle.Roots(other)
				}
			}
			if got := h.detach(thread); got != (thread < 3) {
				t.Fatalf("P23.1: at %v, Detach(%d) = %t", s, thread, got)
			}
			if there && h.cycle.Fields(h.lone[1]) >= 0 && h.cycle.Marked(h.lone[1]) != keeps {
				t.Fatalf("P23.1: at %v, thread %d went, and of what it noted Marked = %t", s, thread, h.cycle.Marked(h.lone[1]))
			}
			if h.cycle.Marked(h.lone[0]) {
				t.Fatalf("P23.1: at %v, thread %d went, and what it did not note is marked", s, thread)
			}
			for other := range 4 {
				if !slices.Equal(h.cycle.Roots(other), others[other]) {
					t.Fatalf("P23.1: at %v, thread %d went, and thread %d holds %v", s, thread, other, h.cycle.Roots(other))
				}
			}
			if h.detach(thread) {
				t.Fatalf("P23.1: at %v, thread %d goes twice", s, thread)
			}
			// It comes again without roots, and without anything that it noted.
			h.attach(thread)
			if len(h.cycle.Roots(thread)) != 0 {
				t.Fatalf("P23.1: at %v, thread %d came again, and holds %v", s, thread, h.cycle.Roots(thread))
			}
			h.finish()
			if there && s.phase != idle && (h.cycle.Fields(h.lone[1]) >= 0) != keeps && s.phase != on {
				t.Fatalf("P23.1: at %v, thread %d went, and what it noted is there: %t", s, thread, !keeps)
			}
			h.whole()
			var want []int
			for other := range 3 {
				if other != thread {
					want = append(want, h.lists[other]...)
				}
			}
			h.kept("a thread went", append(want, h.own...)...)
			h.refill()
		}
	}
}

// TestDetachOrder: what a thread that goes noted is shaded in order.
func TestDetachOrder(t *testing.T) {
	for _, order := range orders() {
		for _, phase := range []int{scan, tracing, drain} {
			for room := 1; room <= 5; room++ {
				h := newHeld(t, roomy(5, 2, 8, room), 2)
				top, l, behind := h.fan()
				h.to(phase)
				waited := len(h.plain.list)
				for _, i := range order {
					h.set(0, top, i, num(0))
				}
				h.detach(0)
				h.alone(l, behind)
				h.poll(1)
				h.topmost(behind, order, room-waited)
				h.finish()
				h.kept("what one noted that went", append(l, behind...)...)
				h.whole()
				h.kept("nothing was noted")
			}
		}
	}
}

// TestQuit: a thread's pages are nobody's when it goes: those without an object are free, the others another thread's, as soon as it asks.
func TestQuit(t *testing.T) {
	for phase := idle; phase <= sweeping; phase++ {
		h := newHeld(t, usual(6, 3), 3)
		a := h.slow(0, 15)
		h.hold(0, h.slow(1, 15), a)
		h.hold(1, h.slow(2, 7))
		h.slow(2, 1)
		h.to(phase)
		if h.cycle.Free() != 1 {
			t.Fatalf("P23.2: Free() = %d; want 1", h.cycle.Free())
		}
		h.detach(0)
		if got := h.slow(1, 15); got/pageWords == a/pageWords {
			t.Fatalf("P23.1: in phase %d, thread 1, whose page has a free cell, makes an object at %d", phase, got)
		}
		if got := h.slow(1, 15); got/pageWords != a/pageWords {
			t.Fatalf("P23.1: in phase %d, the page of a thread that went is still its own: one is made at %d", phase, got)
		}
		if got := h.fast(2, 7); got < 0 {
			t.Fatalf("P23.1: in phase %d, when thread 0 went, thread 2 lost a page", phase)
		}
		h.finish()
		h.refill()
	}
	// Swept, and without an object: free when the thread goes.
	h := newHeld(t, usual(6, 3), 3)
	for _, n := range []int{1, 3, 7, 15} {
		h.slow(0, n)
	}
	h.whole()
	if h.cycle.Free() != 1 {
		t.Fatalf("P23.2: four pages are a thread's, and Free() = %d; want 1", h.cycle.Free())
	}
	h.detach(0)
	if h.cycle.Free() != 5 {
		t.Fatalf("P23.1: a thread went whose four pages have no object, and Free() = %d; want 5", h.cycle.Free())
	}
	h.refill()
}

// TestComesAgain: a thread that comes again holds nothing, in each phase, and has no page.
func TestComesAgain(t *testing.T) {
	for _, s := range stages(6) {
		h := newLaid(t)
		h.reach(s)
		for i := range 3 {
			if !h.detach(i) || !h.attach(i) || len(h.cycle.Roots(i)) != 0 || h.poll(i) && h.cycle.Phase() == s.phase {
				t.Fatalf("P23.1: at %v, thread %d does not go and come again, without roots, not behind", s, i)
			}
			if _, ok := h.cycle.Fast(i, 3); ok {
				t.Fatalf("P23.1: at %v, thread %d came again, and has a page", s, i)
			}
			if v, ok := h.pop(i); ok {
				t.Fatalf("P23.1: at %v, thread %d came again, and pops %v", s, i, v)
			}
		}
		h.finish()
		h.whole()
		h.kept("all have gone and come again", h.own...)
	}
}
