package cycle_test

import (
	"slices"
	"testing"

	"scutage/api"
	"scutage/cycle"
)

// keeps tells whether what is overwritten in that phase stays in this cycle.
func keeps(phase int) bool {
	return phase == scan || phase == tracing || phase == drain
}

// TestWriteNotes: at each stage, by each live thread, over a reference to an object that is marked, and one to an object that is not, from an object that can be reached and from one that can't: what is overwritten stays just if it was marked, or is noted; in the next cycle it goes.
func TestWriteNotes(t *testing.T) {
	for _, s := range stages(6) {
		for thread := range 3 {
			for list := range 4 {
				for _, v := range []api.Value{{}, num(5), ref(0)} {
					h := newLaid(t)
					l := [][]int{h.lists[0], h.lists[1], h.lone, {h.cycle.Global(), h.own[0]}}[list]
					i := 1
					if list == 3 {
						i = 2
					}
					h.reach(s)
					if h.cycle.Fields(l[0]) < 0 || h.cycle.Fields(l[1]) < 0 {
						// It is swept.
						continue
					}
					marked := h.cycle.Marked(l[1])
					h.set(thread, l[0], i, v)
					if h.cycle.Marked(l[1]) != marked {
						t.Fatalf("P23.1: at %v, Write marks what it overwrites, or no longer", s)
					}
					want := marked || keeps(s.phase)
					if s.phase == idle {
						h.begin()
					}
					swept := s.phase == sweeping && l[1]/pageWords < s.done
					h.finish()
					if got := h.cycle.Fields(l[1]) >= 0; got != (want || swept) {
						t.Fatalf("P23.1: at %v, thread %d overwrites list %d's reference to %d, which is marked: %t; behind the cycle it is there: %t", s, thread, list, l[1], marked, got)
					}
					h.whole()
					if h.cycle.Fields(l[1]) >= 0 {
						t.Fatalf("P23.5: at %v, what thread %d overwrote is there behind the next cycle", s, thread)
					}
				}
			}
		}
	}
}

// TestWriteOther: over nothing and numbers, nothing is noted, be there an object at the number or not.
func TestWriteOther(t *testing.T) {
	for _, s := range stages(6) {
		for thread := range 3 {
			h := newLaid(t)
			a := h.lists[thread][0]
			h.set(thread, a, 0, num(int64(h.lone[0])))
			h.set(thread, a, 2, api.Value{})
			h.reach(s)
			there := h.cycle.Fields(h.lone[0]) >= 0
			for range 2 {
				for _, i := range []int{0, 2} {
					for _, v := range []api.Value{num(2*int64(h.lone[0]) + 2), {}, num(int64(h.lone[0])), num(-1)} {
						h.set(thread, a, i, v)
					}
				}
			}
			if there && h.cycle.Marked(h.lone[0]) {
				t.Fatalf("P23.1: at %v, a number is noted", s)
			}
			if s.phase == idle {
				h.begin()
			}
			h.finish()
			h.kept("over no reference nothing is noted", h.reachable()...)
		}
	}
}

// TestWriteSelf: over a reference by the same one: it is noted, and stays there.
func TestWriteSelf(t *testing.T) {
	for _, s := range stages(6) {
		for thread := range 3 {
			h := newLaid(t)
			h.set(0, h.lists[0][2], 0, ref(h.lists[0][2]))
			h.set(0, h.lists[0][2], 2, ref(h.lists[0][0]))
			h.reach(s)
			for range 2 {
				h.set(thread, h.lists[0][2], 0, ref(h.lists[0][2]))
				h.set(thread, h.lists[0][2], 2, ref(h.lists[0][0]))
				h.set(thread, h.lists[0][0], 1, ref(h.lists[0][1]))
				if h.plain.at[h.lone[0]] != nil {
					h.set(thread, h.lone[0], 1, ref(h.lone[1]))
				}
			}
			if s.phase == idle {
				h.begin()
			}
			h.finish()
			want := h.reachable()
			if keeps(s.phase) {
				want = append(want, h.lone[1])
			}
			h.kept("over the same reference", want...)
			h.whole()
			h.kept("over the same reference, the next one", h.reachable()...)
		}
	}
}

// TestWriteMany: many are noted, by one thread and by several, and all of them stay.
func TestWriteMany(t *testing.T) {
	for _, phase := range []int{on, scan, tracing, drain} {
		for _, n := range []int{17, 64, 127} {
			for _, room := range []int{1, 4, 256} {
				h := newHeld(t, roomy(24, 3, 7, room), 3)
				h.quiet = true
				top := h.make(0, make([]api.Value, n)...)
				var l []int
				for i := range n {
					l = append(l, h.make(i%3, num(int64(i))))
					h.set(0, top, i, ref(l[i]))
				}
				h.to(phase)
				for i := range n {
					thread := 0
					if n == 64 {
						thread = i % 3
					}
					h.set(thread, top, i*5%n, num(int64(i)))
				}
				h.finish()
				if phase == on {
					l = nil
				}
				h.kept("many are overwritten", l...)
				h.whole()
				h.kept("behind the next cycle")
			}
		}
	}
}

// TestWriteWrong: by a thread that is not live, of no such object or field, of values that may not be or refer to no object: false, and nothing changes, nor is noted.
func TestWriteWrong(t *testing.T) {
	for _, s := range stages(6) {
		h := newLaid(t)
		h.set(0, h.lone[0], 0, ref(h.lone[0]))
		h.reach(s)
		a := h.lists[0][0]
		refuse := func(thread int, a int, i int, v api.Value) {
			t.Helper()
			if h.write(thread, a, i, v) {
				t.Fatalf("P23.2: at %v, Write(%d, %d, %d, %v) is true", s, thread, a, i, v)
			}
		}
		h.quiet = true
		for _, thread := range append(far(), 3, 4, 5) {
			refuse(thread, a, 1, num(1))
			refuse(thread, a, 1, ref(a))
			refuse(thread, h.lone[0], 1, num(1))
		}
		for thread := range 3 {
			for _, i := range append(far(), 3, 4, 5, 31, 127) {
				refuse(thread, a, i, num(1))
				refuse(thread, a, i, api.Value{})
			}
			for _, b := range append(far(), a+1, a+2, a+3, h.cycle.Global()+5, 31, 191, 192) {
				refuse(thread, b, 0, num(1))
				refuse(thread, b, 1, ref(a))
			}
			for _, v := range append(wrong(), ref(a+1), ref(h.cycle.Global()+1), ref(31), ref(192)) {
				refuse(thread, a, 1, v)
				refuse(thread, h.lists[2][0], 0, v)
				refuse(thread, h.lone[0], 0, v)
				refuse(thread, h.lone[0], 1, v)
				refuse(thread, h.lone[0], 2, v)
				refuse(thread, -1, 0, v)
			}
		}
		h.look("what is refused")
		if s.phase == idle {
			h.begin()
		}
		h.finish()
		h.kept("what is refused is not noted", h.reachable()...)
	}
}

// TestReadWrite: each field of objects of each number of fields has what was written there, and no other one has.
func TestReadWrite(t *testing.T) {
	values := []api.Value{num(1<<40 - 1), num(-1 << 40), num(0), num(-1), ref(0), {}}
	for n := range 128 {
		h := newHeld(t, usual(9, 1), 1)
		h.quiet = true
		a, b := h.slow(0, n), h.slow(0, n)
		for i := range n {
			h.set(0, a, i, values[(n+i)%len(values)])
			h.set(0, b, n-1-i, values[i%len(values)])
		}
		h.hold(0, a, b)
		h.look("written")
		for _, i := range append(far(), n, n+1, 128) {
			if v, ok := h.cycle.Read(a, i); v != (api.Value{}) || ok {
				t.Fatalf("P23.2: of %d fields, Read(%d, %d) = %v, %t", n, a, i, v, ok)
			}
		}
		h.whole()
		h.kept("both are held", a, b)
		h.look("behind a cycle")
	}
}

// TestNoObject: at each address at which no object begins: no fields, no serial, no mark.
func TestNoObject(t *testing.T) {
	for _, s := range stages(6) {
		h := newLaid(t)
		h.hold(1, h.make(1, slices.Repeat([]api.Value{num(3)}, 33)...))
		h.reach(s)
		for a := -1; a < 2100; a++ {
			if a < 0 || a >= addresses || h.plain.at[a] == nil {
				h.nothing(a)
			}
		}
		for _, a := range far() {
			h.nothing(a)
		}
	}
}

// nothing wants that no object begins at a.
func (h *held) nothing(a int) {
	h.Helper()
	if h.cycle.Fields(a) != -1 || h.cycle.Serial(a) != -1 || h.cycle.Marked(a) {
		h.Fatalf("P23.2: no object begins at %d, but Fields = %d, Serial = %d, Marked = %t", a, h.cycle.Fields(a), h.cycle.Serial(a), h.cycle.Marked(a))
	}
	for _, i := range []int{-1, 0, 1, 127} {
		if v, ok := h.cycle.Read(a, i); v != (api.Value{}) || ok {
			h.Fatalf("P23.2: no object begins at %d, but Read(%d) = %v, %t", a, i, v, ok)
		}
	}
}

// counts of fields at and about the ends of classes.
func fieldCounts() []int {
	return []int{0, 1, 2, 3, 4, 7, 8, 15, 16, 31, 32, 63, 64, 95, 96, 127}
}

// TestMade: at each stage, by each thread, fast and slow: a new object is marked in 2, 3 and 4, in 5 just if its page is not swept yet, else not; and stays if it is marked, or was made when its page was swept.
func TestMade(t *testing.T) {
	const pages = 12
	for _, s := range stages(pages) {
		for thread := range 3 {
			for _, n := range fieldCounts() {
				h := newHeld(t, roomy(pages, 4, 2, 3), 3)
				h.quiet = true
				// So that there are pages of all classes, and small ones both low and high.
				keep := []int{h.slow(2, 31)}
				for i, fields := range []int{1, 15, 3, 7} {
					keep = append(keep, h.slow(i%3, fields))
				}
				h.hold(2, keep...)
				if s.done > 6 {
					h.slow(1, 95)
				}
				h.reach(s)
				h.quiet = false
				for range 2 {
					h.newMade(s, h.fast(thread, n))
					h.newMade(s, h.slow(thread, n))
				}
				made := h.plain.made
				if s.phase == idle {
					h.begin()
				}
				h.finish()
				want := keep
				if s.phase > on {
					want = nil
					for _, a := range h.plain.stood() {
						if a != h.cycle.Global() {
							want = append(want, a)
						}
					}
					if len(want) < len(keep)+int(made)-6 && s.done <= 6 {
						t.Fatalf("P23.3: at %v, of %d that were made %v are there", s, made, want)
					}
				}
				h.kept("new ones", want...)
				h.whole()
				h.kept("new ones that nobody holds", keep...)
			}
		}
	}
}

// newMade wants that the new object at a, if there is one, is as the chapter says.
func (h *held) newMade(s stage, a int) {
	h.Helper()
	if a < 0 {
		return
	}
	want := keeps(s.phase) || s.phase == sweeping && a/pageWords >= s.done
	if got := h.cycle.Marked(a); got != want {
		h.Fatalf("P23.1: at %v, an object is made at %d: Marked = %t", s, a, got)
	}
	for i := range h.cycle.Fields(a) {
		if v, ok := h.cycle.Read(a, i); v != (api.Value{}) || !ok {
			h.Fatalf("P23.2: field %d of a new object at %d is %v, %t", i, a, v, ok)
		}
	}
}

// TestMadeAt: in 5 a new object in the page below At is not marked, those at it and above are; be it small or large.
func TestMadeAt(t *testing.T) {
	const pages = 8
	for done := range pages {
		for _, n := range []int{15, 31, 40, 64} {
			for free := range pages {
				// One page's room, or more, from page free on; all others are held.
				h := newHeld(t, usual(pages, 2), 2)
				h.quiet = true
				var l []int
				for range pages - 1 {
					l = append(l, h.slow(0, 31))
				}
				for p, a := range l {
					if p+1 < free || p+1 > free+n/pageWords {
						h.hold(1, a)
					}
				}
				h.whole()
				h.to(sweeping)
				h.units(done)
				a := h.slow(0, n)
				if a < 0 {
					continue
				}
				if a != free*pageWords && free > 0 {
					t.Fatalf("with room from page %d on an object is made at %d", free, a)
				}
				if got, want := h.cycle.Marked(a), a/pageWords >= done; got != want {
					t.Fatalf("P23.1: page %d is swept next, and at %d, with %d fields, Marked = %t", done, a, n, got)
				}
				h.finish()
				if h.cycle.Fields(a) != n {
					t.Fatalf("P23.3: what was made at %d when page %d was next is freed by the same cycle", a, done)
				}
				h.whole()
				if h.cycle.Fields(a) >= 0 {
					t.Fatalf("P23.5: what was made at %d, which nobody held, is there behind the next cycle", a)
				}
			}
		}
	}
}

// TestMadeShaded: in 2 a new object is gone through: what is written into it, and held no more, stays.
func TestMadeShaded(t *testing.T) {
	for _, fast := range []bool{false, true} {
		for room := 1; room <= 4; room++ {
			for _, n := range []int{1, 3, 15} {
				h := newHeld(t, roomy(5, 2, 1, room), 2)
				b := h.make(0, num(1))
				h.hold(0, b)
				if fast {
					h.slow(0, n)
				}
				h.to(scan)
				waited := len(h.plain.list)
				var a int
				if fast {
					a = h.fast(0, n)
				} else {
					a = h.slow(0, n)
				}
				if waited < room && len(h.plain.list) != waited+1 {
					t.Fatal("what is made does not wait")
				}
				// Read from the thread's roots, written, and popped ahead of its poll.
				h.set(0, a, n-1, ref(b))
				h.pop(0)
				h.hold(0, a)
				h.poll(0, 1)
				if h.cycle.Phase() != tracing || h.cycle.Marked(b) || !h.cycle.Marked(a) {
					t.Fatalf("P23.1: in phase %d, Marked(%d) = %t, Marked(%d) = %t", h.cycle.Phase(), b, h.cycle.Marked(b), a, h.cycle.Marked(a))
				}
				h.finish()
				h.kept("what is made in 2 is gone through", a, b)
			}
		}
	}
}

// TestMadeBlack: in 3, 4 and 5 a new object does not wait: it makes no unit more, and is no loss.
func TestMadeBlack(t *testing.T) {
	for _, room := range []int{1, 2, 16} {
		units := 0
		for _, made := range []int{0, 1, 9} {
			h := newHeld(t, roomy(16, 2, 16, room), 2)
			a := h.make(0, num(1), num(2))
			h.hold(0, a)
			h.to(tracing)
			for range made {
				h.make(0, ref(a), ref(0))
				h.make(1, slices.Repeat([]api.Value{ref(a)}, 16)...)
				if h.cycle.Phase() == tracing {
					h.units(1)
				}
			}
			h.units(greatest)
			h.make(0, ref(a))
			h.poll(0, 1)
			if h.cycle.Phase() != sweeping {
				t.Fatalf("P23.1: behind objects made in 3 and 4 it is phase %d", h.cycle.Phase())
			}
			if made > 0 && room == 16 && h.cycle.Units() != units {
				t.Fatalf("P23.1: with %d objects made in 3 there are %d units; without %d", made, h.cycle.Units(), units)
			}
			units = h.cycle.Units()
			h.make(0, ref(a))
			h.finish()
		}
	}
}

// TestMadeWrong: too many fields, too few, no room left, no page of one's own: nothing is made, and nothing changes; Fast is what it can be, and no more.
func TestMadeWrong(t *testing.T) {
	for _, s := range stages(3) {
		h := newHeld(t, roomy(3, 4, 2, 3), 3)
		h.hold(0, h.make(0, num(1), num(2)))
		h.hold(1, h.make(1, slices.Repeat([]api.Value{num(3)}, 15)...))
		h.reach(s)
		for thread := range 3 {
			for _, n := range append(far(), 128, 129, 255, 256) {
				if a, e := h.cycle.Slow(thread, n); a != 0 || e != api.ErrRange {
					t.Fatalf("P23.2: at %v, Slow(%d, %d) = %d, %d; want ErrRange", s, thread, n, a, e)
				}
				h.fast(thread, n)
			}
			for _, n := range fieldCounts() {
				// Thread 1's page has one more cell.
				own := thread == 0 && classOf(n) == 2 || thread == 1 && n == 8
				if got := h.fast(thread, n) >= 0; got != own {
					t.Fatalf("P23.2: at %v, Fast(%d, %d): %t", s, thread, n, got)
				}
			}
			if a, e := h.cycle.Slow(thread, 31); a != 0 || e != api.ErrFull {
				t.Fatalf("P23.2: at %v, without a free page, Slow(%d, 31) = %d, %d; want ErrFull", s, thread, a, e)
			}
			if a, e := h.cycle.Slow(2, 0); a != 0 || e != api.ErrFull {
				t.Fatalf("P23.2: at %v, without a free page, Slow(2, 0) = %d, %d; want ErrFull", s, a, e)
			}
			if a, e := h.cycle.Slow(thread, -1); a != 0 || e != api.ErrRange {
				t.Fatalf("P23.2: at %v, without a free page, Slow(%d, -1) = %d, %d; want ErrRange", s, thread, a, e)
			}
		}
		h.look("what can't be made")
		h.finish()
		h.refill()
	}
}

// TestGlobalPage: the global object's page is the collector's own: no thread makes an object there, whatever goes on.
func TestGlobalPage(t *testing.T) {
	for threads := 1; threads <= 8; threads++ {
		h := newHeld(t, usual(3, threads), threads)
		for range 2 {
			for thread := range threads {
				for _, n := range []int{4, 7} {
					if a := h.fast(thread, n); a >= 0 && a < pageWords {
						t.Fatalf("P23.2: thread %d makes an object at %d", thread, a)
					}
					if a := h.slow(thread, n); a >= 0 && a < pageWords {
						t.Fatalf("P23.2: thread %d makes an object at %d", thread, a)
					}
				}
			}
			h.whole()
			for thread := range threads {
				h.detach(thread)
				h.attach(thread)
			}
		}
		h.kept("nobody holds anything")
	}
}

// TestPush: values that may be are pushed, up to sixteen; others are not, and nothing changes.
func TestPush(t *testing.T) {
	for _, s := range stages(6) {
		h := newLaid(t)
		h.reach(s)
		h.quiet = true
		values := []api.Value{{}, num(0), num(1<<40 - 1), num(-1 << 40), num(-1), ref(h.cycle.Global()), ref(h.lists[0][1]), ref(h.lists[2][0])}
		for thread := range 3 {
			refused := append(wrong(), ref(31), ref(192), ref(h.lists[0][0]+1))
			for i := 1; i < 16; i++ {
				for _, v := range refused {
					if h.push(thread, v) {
						t.Fatalf("P23.2: at %v, Push(%d, %v) is true", s, thread, v)
					}
				}
				if v := values[(i+thread)%len(values)]; !h.push(thread, v) {
					t.Fatalf("P23.2: at %v, of %d, Push(%d, %v) is false", s, i, thread, v)
				}
			}
			h.look("pushed")
			for _, v := range append(refused, values...) {
				if h.push(thread, v) {
					t.Fatalf("P23.2: at %v, with sixteen, Push(%d, %v) is true", s, thread, v)
				}
			}
			h.look("not pushed")
			if v, ok := h.pop(thread); v != values[(15+thread)%len(values)] || !ok {
				t.Fatalf("P23.2: at %v, Pop(%d) = %v, %t", s, thread, v, ok)
			}
			if !h.push(thread, num(4)) || h.push(thread, num(4)) {
				t.Fatalf("P23.2: at %v, behind Pop, Push(%d) is false, or true twice", s, thread)
			}
			for range 16 {
				h.pop(thread)
			}
			if v, ok := h.pop(thread); v != (api.Value{}) || ok || len(h.cycle.Roots(thread)) != 0 {
				t.Fatalf("P23.2: at %v, behind all, Pop(%d) = %v, %t", s, thread, v, ok)
			}
		}
		h.look("popped")
		h.finish()
	}
}

// TestPushFreed: a reference to an object that is gone is one to no object.
func TestPushFreed(t *testing.T) {
	h := newLaid(t)
	for _, a := range h.lone {
		if !h.push(1, ref(a)) {
			t.Fatalf("P23.2: Push of a reference to %d is false", a)
		}
	}
	h.pop(1)
	h.pop(1)
	h.whole()
	for _, a := range h.lone {
		if h.push(1, ref(a)) || h.write(1, h.lists[1][0], 0, ref(a)) {
			t.Fatalf("P23.2: a reference to %d, where no object is any more, is pushed or written", a)
		}
	}
}

// TestRootsKeep: what a thread holds stays, whoever else lets go of it, at each place among its values; and is not changed by any phase.
func TestRootsKeep(t *testing.T) {
	for place := range 16 {
		h := newHeld(t, roomy(4, 3, 2, 1), 3)
		a := h.make(0, num(8), num(9))
		for i := range 16 {
			if i == place {
				h.hold(1, a)
			} else {
				h.push(1, num(int64(i)))
			}
		}
		h.hold(0, a)
		h.pop(0)
		for range 2 {
			h.whole()
			h.kept("held once", a)
			if got := h.cycle.Roots(1); len(got) != 16 || got[place] != ref(a) {
				t.Fatalf("P23.2: Roots(1) = %v", got)
			}
		}
		h.drop(1)
		h.whole()
		h.kept("held no more")
	}
}

// TestRings: rings of objects, objects that lead to themselves, large ones: held, they stay, held no more, they go.
func TestRings(t *testing.T) {
	for _, n := range []int{1, 2, 3, 15, 16, 40, 127} {
		for length := 1; length <= 4; length++ {
			for _, c := range []api.Config{roomy(20, 2, 1, 1), roomy(20, 2, 16, 1), roomy(20, 2, 3, 256)} {
				h := newHeld(t, c, 2)
				h.quiet = true
				var l []int
				for range length {
					l = append(l, h.slow(len(l)%2, n))
				}
				for i, a := range l {
					h.set(0, a, 0, ref(a))
					h.set(0, a, n-1, ref(l[(i+1)%length]))
				}
				h.hold(1, l[length-1])
				h.whole()
				h.kept("a ring that is held", l...)
				h.pop(1)
				h.set(0, h.cycle.Global(), 3, ref(l[0]))
				h.whole()
				h.kept("a ring that the global object leads to", l...)
				h.set(0, l[0], 0, ref(h.cycle.Global()))
				h.set(0, h.cycle.Global(), 3, ref(h.cycle.Global()))
				h.whole()
				h.kept("a ring that nothing leads to")
			}
		}
	}
}

// TestLittleRoom: with so little room that marks are lost, the tracer looks again, until all that can be reached is marked: in chains, short and long, in bushes, and in chains that go down page by page.
func TestLittleRoom(t *testing.T) {
	for _, room := range []int{1, 2, 3, 5} {
		for _, chunk := range []int{1, 2, 16} {
			for _, n := range []int{1, 2, 9, 60} {
				h := newHeld(t, roomy(40, 2, chunk, room), 2)
				h.quiet = true
				// Each of n objects refers to the one made ahead of it, and to four leaves.
				var l []int
				for range n {
					a := h.slow(0, 6)
					for i := range 4 {
						leaf := h.slow(1, 1)
						h.set(0, a, i, ref(leaf))
						l = append(l, leaf)
					}
					if len(l) > 4 {
						h.set(0, a, 4, ref(l[len(l)-5]))
					}
					l = append(l, a)
				}
				h.list(1, 3)
				h.hold(1, l[len(l)-1])
				h.begin()
				h.poll(0, 1, 0, 1)
				lost := false
				for h.plain.phase == tracing {
					lost = lost || h.plain.over
					h.unit()
				}
				if !lost && n > 1 && room < 3 {
					t.Fatalf("with room for %d nothing was lost", room)
				}
				h.finish()
				h.kept("with little room", l...)
				h.look("with little room")
			}
		}
	}
}

// TestBush: an object of as many fields as there may be, each of which refers to an object of its own, with room for one.
func TestBush(t *testing.T) {
	for _, room := range []int{1, 2, 100, 256} {
		h := newHeld(t, roomy(40, 1, 16, room), 1)
		h.quiet = true
		top := h.slow(0, 127)
		l := []int{top}
		for i := range 127 {
			leaf := h.slow(0, 1)
			under := h.slow(0, 1)
			h.set(0, leaf, 0, ref(under))
			h.set(0, top, i, ref(leaf))
			l = append(l, leaf, under)
		}
		h.set(0, h.cycle.Global(), 0, ref(top))
		h.whole()
		h.kept("a bush", l...)
		h.set(0, h.cycle.Global(), 0, num(0))
		h.whole()
		h.kept("no bush")
	}
}

// TestAnswersApart: P2: what Roots and Objects told can be written on and appended to without any change.
func TestAnswersApart(t *testing.T) {
	for _, s := range stages(6) {
		h := newLaid(t)
		h.push(0, num(5))
		h.reach(s)
		for thread := range 3 {
			l := h.cycle.Roots(thread)
			again := h.cycle.Roots(thread)
			for i := range l {
				l[i] = num(-99)
			}
			l = append(l[:0], num(1), num(2), num(3), num(4))
			if !slices.Equal(again, h.plain.roots(thread)) {
				t.Fatalf("P2: at %v, Roots(%d) shares memory with another answer", s, thread)
			}
		}
		h.look("roots were written on")
		objects := h.cycle.Objects()
		again := slices.Clone(objects)
		other := h.cycle.Objects()
		for i := range objects {
			objects[i] = 7
		}
		objects = append(objects[:0], 1, 2, 3)
		if len(objects) != 3 || !slices.Equal(other, again) {
			t.Fatalf("P2: at %v, Objects shares memory with another answer", s)
		}
		h.look("objects were written on")
		roots := h.cycle.Roots(0)
		h.push(0, num(6))
		h.pop(0)
		h.pop(0)
		h.push(0, num(8))
		if want := []api.Value{ref(h.lists[0][0]), num(5)}; !slices.Equal(roots, want) {
			t.Fatalf("P2: at %v, what Roots told became %v", s, roots)
		}
		h.finish()
	}
}

// nowhere is an idle collector whose one thread holds a reference that it did not find, to an object of one field that is freed, and where that was.
func nowhere(t *testing.T) (*cycle.Collector, int) {
	t.Helper()
	g, _ := cycle.New(usual(4, 1))
	g.Attach(0)
	a, _ := g.Slow(0, 1)
	led(g, sweeping)
	if !g.Push(0, ref(a)) {
		t.Fatal("P23.2: a reference to an object is not pushed")
	}
	led(g, idle)
	if g.Fields(a) != -1 {
		t.Fatal("P23.1: in 5 an object that is not marked stays")
	}
	return g, a
}

// led leads g to that phase, from another one, with a cycle that begins if none is on.
func led(g *cycle.Collector, phase int) {
	g.Begin()
	for g.Phase() != phase {
		g.Poll(0)
		g.Unit()
	}
}

// TestNowhereMarked: what is shaded where no object begins is not told as marked.
func TestNowhereMarked(t *testing.T) {
	g, a := nowhere(t)
	g.Begin()
	for g.Phase() != idle {
		if g.Marked(a) {
			t.Fatalf("P23.2: in phase %d no object begins at %d, but Marked is true", g.Phase(), a)
		}
		g.Poll(0)
		g.Unit()
	}
}

// TestNowhere: what is shaded where no object begins leaves no mark for one that is made there: none in phases 0 and 1 (P23.4), none in 5, when its page is swept, and none from one cycle to the next.
func TestNowhere(t *testing.T) {
	g, a := nowhere(t)
	led(g, idle)
	if b, _ := g.Slow(0, 1); b != a || g.Marked(a) {
		t.Errorf("P23.4: in phase 0 an object is made at %d: Marked = %t", b, g.Marked(b))
	}
	if g.Begin(); g.Phase() != on || g.Marked(a) {
		t.Error("P23.4: in phase 1 an object is marked")
	}
	g, a = nowhere(t)
	led(g, sweeping)
	for g.At() <= a/pageWords {
		g.Unit()
	}
	if b, _ := g.Slow(0, 1); b != a || g.Marked(a) {
		t.Errorf("P23.1: in 5 an object is made in a page that is swept, at %d: Marked = %t", b, g.Marked(b))
	}
	g, a = nowhere(t)
	led(g, idle)
	g.Pop(0)
	b, _ := g.Slow(0, 3)
	g.Push(0, ref(b))
	g.Begin()
	g.Poll(0)
	if c, _ := g.Slow(0, 1); c != a || g.Phase() != scan || !g.Marked(a) {
		t.Fatalf("P23.1: in phase %d an object is made at %d: Marked = %t", g.Phase(), c, g.Marked(c))
	}
	g.Write(0, a, 0, ref(b))
	g.Pop(0)
	g.Push(0, ref(a))
	led(g, idle)
	if g.Fields(a) != 1 || g.Fields(b) != 3 {
		t.Errorf("P23.3: of what is made in 2, and what it refers to, there is: %t, %t", g.Fields(a) == 1, g.Fields(b) == 3)
	}
}
