package trace_test

import (
	"slices"
	"testing"

	"scutage/api"
	"scutage/shade"
	"scutage/stack"
	"scutage/store"
	"scutage/trace"
)

// TestExample: the chapter's: of an object with two fields and Chunk 1: two units.
func TestExample(t *testing.T) {
	s, g := store.New(2, 1), shade.New(8)
	r := trace.New(s, g, 2, 1)
	a, _ := s.Slow(0, 2)
	if !r.Idle() || r.Unit() || !g.Shade(a) || r.Idle() || !r.Unit() || r.Idle() || !r.Unit() || !r.Idle() || r.Unit() || r.Page() != -1 {
		t.Error("P19.1: of an object with two fields and Chunk 1 there are not two units")
	}
}

// TestWrittenOut: a tracer worked out by hand from the chapter.
func TestWrittenOut(t *testing.T) {
	s, g := store.New(3, 1), shade.New(2)
	r := trace.New(s, g, 3, 2)
	tell := func(when string, idle bool, page int, over bool, marked []int, waits ...stack.Entry) {
		t.Helper()
		if r.Idle() != idle || r.Page() != page || g.Over() != over {
			t.Errorf("P19.1: %s: Idle() = %t, Page() = %d, Over() = %t; want %t, %d, %t", when, r.Idle(), r.Page(), g.Over(), idle, page, over)
		}
		if l := waiting(g); !slices.Equal(g.All(), marked) || !slices.Equal(l, waits) {
			t.Errorf("P19.1: %s: marked are %v, there waits %v; want %v, %v", when, g.All(), l, marked, waits)
		}
	}
	unit := func(want bool) {
		t.Helper()
		if got := r.Unit(); got != want {
			t.Errorf("P19.1: Unit() = %t; want %t", got, want)
		}
	}
	// An object of seven fields at 0, one more at 8, one of one field at 32, and a page of none.
	a, _ := s.Slow(0, 7)
	b, _ := s.Slow(0, 7)
	c, _ := s.Slow(0, 1)
	if a != 0 || b != 8 || c != 32 {
		t.Fatalf("objects are at %d, %d, %d; want 0, 8, 32", a, b, c)
	}
	for i, v := range []api.Value{ref(100), num(101), {}, ref(102), ref(8), ref(32), ref(8)} {
		s.Set(0, i, v)
	}
	s.Set(8, 6, ref(104))
	s.Set(32, 0, ref(103))
	unit(false)
	tell("new", true, -1, false, nil)
	g.Shade(0)
	tell("0 is shaded", false, -1, false, []int{0}, entry(0, 0))
	unit(true)
	tell("fields 0 and 1", false, -1, false, []int{0, 100}, entry(0, 2), entry(100, 0))
	unit(true)
	tell("of 100, which is no object", false, -1, false, []int{0, 100}, entry(0, 2))
	unit(true)
	tell("fields 2 and 3", false, -1, false, []int{0, 100, 102}, entry(0, 4), entry(102, 0))
	unit(true)
	unit(true)
	tell("fields 4 and 5: 32 is lost", false, -1, true, []int{0, 8, 32, 100, 102}, entry(0, 6), entry(8, 0))
	unit(true)
	unit(true)
	unit(true)
	tell("8, from 0, 2 and 4 on", false, -1, true, []int{0, 8, 32, 100, 102}, entry(0, 6), entry(8, 6))
	unit(true)
	tell("8, from 6 on", false, -1, true, []int{0, 8, 32, 100, 102, 104}, entry(0, 6), entry(104, 0))
	unit(true)
	unit(true)
	tell("all was taken", false, -1, true, []int{0, 8, 32, 100, 102, 104})
	unit(true)
	tell("page 0", false, 1, false, []int{0, 8, 32, 100, 102, 104})
	unit(true)
	tell("page 1", false, 2, false, []int{0, 8, 32, 100, 102, 103, 104}, entry(103, 0))
	unit(true)
	tell("103, ahead of page 2", false, 2, false, []int{0, 8, 32, 100, 102, 103, 104})
	unit(true)
	tell("page 2", true, -1, false, []int{0, 8, 32, 100, 102, 103, 104})
	unit(false)
	tell("nothing to do", true, -1, false, []int{0, 8, 32, 100, 102, 103, 104})
}

// numbers are those from below one end to above the other one, and far ones.
func numbers(lo int, hi int) []int {
	l := far()
	for n := lo; n <= hi; n++ {
		l = append(l, n)
	}
	return l
}

// TestNewPages: each number of pages, beyond each end, and far out: a second look ends behind so many, all of them looked at, and none behind them.
func TestNewPages(t *testing.T) {
	for _, pages := range numbers(-20, 90) {
		h := newOver(mostPages, mostRoom, pages, 3)
		h.quiet = true
		want := nearest(pages, 1, mostPages)
		for p := range mostPages {
			// Two objects a page; a third address of it is no object's.
			h.make(t, slices.Repeat([]api.Value{ref(p*pageWords + 1)}, 15)...)
			h.make(t, slices.Repeat([]api.Value{{}}, 15)...)
			h.black(t, p*pageWords)
		}
		h.lose(t)
		h.look(t, "new, all marked, a loss noted")
		for p := range want {
			if !h.unit(t) || h.plain.marks[p*pageWords+1] != h.grey.Is(p*pageWords+1) || !h.grey.Is(p*pageWords+1) {
				t.Fatalf("P19.1: of New with %d pages, page %d is not looked at", pages, p)
			}
			next := p + 1
			if next == want {
				next = -1
			}
			if h.tracer.Page() != next {
				t.Fatalf("P19.1: of New with %d pages, behind page %d, Page() = %d; want %d", pages, p, h.tracer.Page(), next)
			}
			// What was shaded.
			h.unit(t)
		}
		if h.unit(t) || h.grey.Count() != mostPages+want {
			t.Fatalf("P19.1: of New with %d pages, behind page %d there is something to do, or %d are marked; want %d", pages, want-1, h.grey.Count(), mostPages+want)
		}
		h.look(t, "looked at all pages")
	}
}

// TestNewChunk: each chunk, beyond each end, and far out: one unit goes through so many fields.
func TestNewChunk(t *testing.T) {
	for _, chunk := range numbers(-20, 40) {
		h := newHeld(8, mostRoom, chunk)
		h.make(t, h.distinct(127, 200)...)
		h.shade(t, 0)
		want := nearest(chunk, 1, mostChunk)
		for through := 0; through < 127; through += want {
			if !h.unit(t) || h.grey.Count() != 1+min(through+want, 127) {
				t.Fatalf("P19.1: of New with chunk %d, behind %d fields, one unit goes through %d", chunk, through, h.grey.Count()-1-through)
			}
			// What was shaded is no object: it is taken, one a unit.
			for range min(through+want, 127) - through {
				h.unit(t)
			}
		}
		if h.unit(t) || !h.tracer.Idle() {
			t.Fatalf("P19.1: of New with chunk %d, behind all fields there is something to do", chunk)
		}
		h.look(t, "all fields")
	}
}

// TestNewBoth: pages and chunk are each their own: none is taken for the other one.
func TestNewBoth(t *testing.T) {
	for _, pages := range []int{-3, 1, 2, 5, 15, 16, 17, 40, 63, 64, 65, greatest, least} {
		for _, chunk := range []int{-3, 1, 2, 5, 15, 16, 17, 40, 64, greatest, least} {
			h := newOver(mostPages, 4, pages, chunk)
			h.quiet = true
			for range mostPages {
				a := h.make(t, h.distinct(12, 1600)...)
				h.make(t, slices.Repeat([]api.Value{ref(a)}, 9)...)
			}
			h.look(t, "new")
			h.quiet = false
			h.shade(t, (nearest(pages, 1, mostPages)-1)*pageWords)
			h.all(t)
			h.shade(t, 16)
			h.all(t)
			h.look(t, "behind all units")
		}
	}
}

// TestNewLeaves: P2: New, Idle and Page change neither the store nor the grey, and a new one does not look, whatever there is.
func TestNewLeaves(t *testing.T) {
	h := newHeld(4, 2, 2)
	h.make(t, ref(9), ref(4))
	h.make(t, ref(0))
	h.shade(t, 0)
	h.lose(t)
	for range 3 {
		r := trace.New(h.store, h.grey, 4, 2)
		if r == nil || r.Idle() || r.Page() != -1 {
			t.Fatal("P19.1: where one waits and a loss is noted, New is nil, or is idle, or looks again")
		}
		h.look(t, "New")
	}
}

// mixed are n values, of which some are references to distinct addresses from a on, some to the same, some numbers that are such addresses, and some nothing.
func (h *held) mixed(n int, a int) []api.Value {
	l := h.distinct(n, a)
	for i, v := range l {
		switch i * i % 7 {
		case 1:
			l[i] = num(v.N)
		case 2:
			l[i] = api.Value{}
		case 4:
			l[i] = l[i/2]
		}
	}
	return l
}

// TestEntries: of each number of fields around each chunk and of the most ones, from each field on, below and beyond them: the rest is put back first, then each reference is shaded, in order.
func TestEntries(t *testing.T) {
	for _, chunk := range []int{1, 2, 3, 7, 15, 16} {
		for _, n := range []int{0, 1, 2, 3, 4, 6, 7, 8, 9, 13, 14, 15, 16, 17, 18, 30, 31, 32, 33, 47, 48, 49, 126, 127} {
			for from := -2; from <= n+2; from++ {
				h := newHeld(8, mostRoom, chunk)
				h.quiet = true
				h.make(t, h.mixed(n, 300)...)
				h.rest(t, entry(7, 7))
				h.rest(t, entry(0, from))
				h.quiet = false
				h.unit(t)
				left := 1
				if from >= 0 && from < n {
					left += min(h.grey.Count(), chunk)
				}
				if from >= 0 && from+chunk < n {
					left++
				}
				if got := h.grey.Waiting(); got != left {
					t.Fatalf("P19.1: of %d fields, from %d on, chunk %d, %d wait; want %d", n, from, chunk, got, left)
				}
				if h.grey.Over() || h.tracer.Page() != -1 {
					t.Fatalf("P19.1: of %d fields, from %d on, chunk %d, a loss is noted, or it looks again", n, from, chunk)
				}
				if from%5 == 0 {
					h.look(t, "one unit")
					h.all(t)
				}
			}
		}
	}
}

// TestOrder: what one unit lets wait, written out: the rest at the bottom, then each reference in order.
func TestOrder(t *testing.T) {
	for chunk := 1; chunk <= mostChunk; chunk++ {
		for n := 1; n <= 20; n++ {
			h := newHeld(8, mostRoom, chunk)
			var fields []api.Value
			for i := range n {
				fields = append(fields, ref(1000-i*i*3%97))
			}
			h.make(t, fields...)
			h.shade(t, 0)
			h.unit(t)
			var want []stack.Entry
			if n > chunk {
				want = append(want, entry(0, chunk))
			}
			for i := range min(n, chunk) {
				if e := entry(1000-i*i*3%97, 0); !slices.Contains(want, e) {
					want = append(want, e)
				}
			}
			if got := waiting(h.grey); !slices.Equal(got, want) {
				t.Fatalf("P19.1: of %d fields, chunk %d, there waits %v; want %v", n, chunk, got, want)
			}
		}
	}
}

// TestNoSuchEntry: of an entry whose object is none, or has no field From: it is taken, and that is all.
func TestNoSuchEntry(t *testing.T) {
	entries := []stack.Entry{entry(1, 0), entry(31, 0), entry(33, 0), entry(100, 0), entry(255, 0), entry(256, 0), entry(2047, 0), entry(0, 3), entry(0, 4), entry(32, 40), entry(32, 127), entry(96, 0), entry(96, 1)}
	for _, n := range far() {
		entries = append(entries, entry(n, 0), entry(n, 1), entry(n, n), entry(0, n), entry(32, n), entry(96, n))
	}
	for _, chunk := range []int{1, 2, 16} {
		for _, e := range entries {
			h := newHeld(8, 3, chunk)
			h.quiet = true
			h.make(t, ref(200), ref(201), ref(202))
			h.make(t, h.distinct(40, 300)...)
			// Its words behind the first one are such as an object's first word is.
			if a := h.make(t); a != 96 {
				t.Fatalf("an object is at %d; want 96", a)
			}
			h.set(t, 32, 0, num(3))
			h.quiet = false
			h.rest(t, entry(0, 2))
			h.rest(t, e)
			if !h.unit(t) || h.grey.Waiting() != 1 || h.grey.Count() != 0 || h.grey.Over() {
				t.Fatalf("P19.1: of %v there is no unit, or it is not just taken", e)
			}
			h.look(t, "no such entry")
			if !h.unit(t) || h.grey.Count() != 1 || !h.grey.Is(202) {
				t.Fatalf("P19.1: behind %v the entry below it is not gone through", e)
			}
			h.all(t)
		}
	}
}

// TestFreed: an entry whose object is freed between is taken, and that is all; one that is made there anew is gone through.
func TestFreed(t *testing.T) {
	h := newHeld(4, 8, 1)
	h.make(t, ref(70), ref(71), ref(72))
	h.shade(t, 0)
	h.units(t, 2)
	if !slices.Equal(waiting(h.grey), []stack.Entry{entry(0, 1)}) {
		t.Fatalf("P19.1: there waits %v; want 0 from 1 on", waiting(h.grey))
	}
	h.free(t, 0)
	h.unit(t)
	if !h.tracer.Idle() || h.grey.Is(71) {
		t.Fatal("P19.1: what is freed is gone through")
	}
	h.rest(t, entry(0, 1))
	if a := h.make(t, ref(80), ref(81)); a != 0 {
		t.Fatalf("made anew at %d; want 0", a)
	}
	h.unit(t)
	if !h.grey.Is(81) || h.grey.Is(80) {
		t.Fatal("P19.1: what is made anew is not gone through, from field 1 on")
	}
	h.all(t)
}

// TestTopmost: entries are taken one a unit, the topmost first, with and without a loss that is noted, and while a look is under way; where it looks stays.
func TestTopmost(t *testing.T) {
	for _, noted := range []bool{false, true} {
		for looked := range 5 {
			h := newHeld(5, 8, 2)
			for i := range 6 {
				h.make(t, ref(400+i))
			}
			if looked > 0 {
				h.lose(t)
				h.units(t, looked)
			}
			for _, a := range []int{0, 4, 2, 6} {
				h.rest(t, entry(a, 0))
			}
			if noted {
				h.lose(t)
			}
			page := h.tracer.Page()
			for i, at := range []int{403, 401, 402, 400} {
				h.unit(t)
				if !h.grey.Is(at) || h.grey.Count() != i+1 || h.tracer.Page() != page || h.grey.Over() != noted || h.tracer.Idle() {
					t.Fatalf("P19.1: number %d that is taken did not lead to %d alone, or it is idle, or looks at %d, or Over() = %t", i, at, h.tracer.Page(), h.grey.Over())
				}
				h.unit(t)
			}
			h.all(t)
			h.look(t, "all were taken")
		}
	}
}

// TestRoom: a unit that finds room for each number of entries: what is lost is marked, and noted.
func TestRoom(t *testing.T) {
	for _, chunk := range []int{1, 2, 5, 16} {
		for _, n := range []int{1, 2, 5, 6, 16, 17, 40} {
			for left := 1; left <= min(chunk, n)+3; left++ {
				h := newHeld(8, 40, chunk)
				h.quiet = true
				h.make(t, h.distinct(n, 300)...)
				h.fill(t, left)
				// One of those that are left is what is taken.
				h.rest(t, entry(0, 0))
				h.quiet = false
				h.unit(t)
				through := min(n, chunk)
				wanted := through
				if n > chunk {
					wanted++
				}
				if h.grey.Count() != through {
					t.Fatalf("P19.1: with room for %d, %d of %d are marked", left, h.grey.Count(), through)
				}
				if got := h.grey.Over(); got != (wanted > left) {
					t.Fatalf("P19.1: with room for %d of %d, Over() = %t", left, wanted, got)
				}
				if got := h.grey.Waiting(); got != 40-left+min(left, wanted) {
					t.Fatalf("P19.1: with room for %d of %d, %d wait; want %d", left, wanted, got, 40-left+min(left, wanted))
				}
				if rest := waiting(h.grey)[40-left]; n > chunk && rest != entry(0, chunk) {
					t.Fatalf("P19.1: with room for %d, the rest is not there: %v", left, rest)
				}
				h.all(t)
				h.look(t, "behind all units")
			}
		}
	}
}

// TestLook: a look at pages of all kinds: without an object, with objects that are not marked, with marked ones of several sizes: each of their fields, whatever the chunk, in order.
func TestLook(t *testing.T) {
	for _, chunk := range []int{1, 4, 16} {
		h := newHeld(16, mostRoom, chunk)
		h.quiet = true
		var made []int
		for i, n := range []int{0, 1, 2, 3, 4, 7, 8, 15, 15, 15, 16, 31, 40, 127, 1, 3, 0} {
			a := h.make(t, h.mixed(n, 700+i*40)...)
			if a < 0 {
				t.Fatalf("no room for %d fields", n)
			}
			made = append(made, a)
		}
		for i, a := range made {
			if i%4 != 2 {
				h.black(t, a)
			}
		}
		// Marks of no object are nothing to look at.
		h.black(t, 1)
		h.black(t, 2046)
		h.lose(t)
		h.quiet = false
		for range h.plain.pages {
			h.unit(t)
			h.look(t, "a page")
			for h.grey.Waiting() > 0 {
				h.unit(t)
			}
		}
		if h.unit(t) || !h.tracer.Idle() || h.tracer.Page() != -1 {
			t.Fatal("P19.1: behind all pages there is something to do")
		}
	}
}

// TestLookOrder: what a look lets wait, written out: object by object, field by field.
func TestLookOrder(t *testing.T) {
	h := newHeld(4, 20, 1)
	a := h.make(t, ref(90), num(95), ref(85), ref(99))
	b := h.make(t, ref(80), ref(85), ref(70))
	c := h.make(t, ref(71), ref(60), api.Value{}, ref(91))
	if a != 0 || b != 32 || c != 8 {
		t.Fatalf("objects are at %d, %d, %d; want 0, 32, 8", a, b, c)
	}
	h.black(t, a)
	h.black(t, b)
	h.black(t, c)
	h.lose(t)
	h.unit(t)
	if got, want := waiting(h.grey), []stack.Entry{entry(90, 0), entry(85, 0), entry(99, 0), entry(71, 0), entry(60, 0), entry(91, 0)}; !slices.Equal(got, want) {
		t.Fatalf("P19.1: behind page 0 there waits %v; want %v", got, want)
	}
	for h.grey.Waiting() > 0 {
		h.unit(t)
	}
	h.unit(t)
	if got, want := waiting(h.grey), []stack.Entry{entry(80, 0), entry(70, 0)}; !slices.Equal(got, want) {
		t.Fatalf("P19.1: behind page 1 there waits %v; want %v", got, want)
	}
	h.all(t)
}

// TestLookMarks: an object of the page that becomes marked ahead of its turn is looked at, one behind its turn is not, and waits like it.
func TestLookMarks(t *testing.T) {
	h := newHeld(4, 20, 1)
	a := h.make(t, ref(4))
	b := h.make(t, ref(4))
	c := h.make(t, ref(70))
	d := h.make(t, ref(71))
	h.set(t, b, 0, ref(d))
	h.set(t, d, 0, ref(a))
	h.set(t, a, 0, ref(70))
	h.black(t, b)
	h.lose(t)
	h.unit(t)
	if !h.grey.Is(d) || !h.grey.Is(a) || h.grey.Is(c) || h.grey.Is(70) {
		t.Fatalf("P19.1: of page 0, marked are %v", h.grey.All())
	}
	if got, want := waiting(h.grey), []stack.Entry{entry(d, 0), entry(a, 0)}; !slices.Equal(got, want) {
		t.Fatalf("P19.1: behind page 0 there waits %v; want %v", got, want)
	}
	h.all(t)
	if !h.grey.Is(70) || h.grey.Is(c) {
		t.Fatal("P19.2: what waits is not gone through")
	}
}

// TestLookLarge: a large object is looked at in the page where it begins, all of its fields, and in no later one.
func TestLookLarge(t *testing.T) {
	for _, n := range []int{16, 30, 31, 32, 63, 64, 95, 96, 126, 127} {
		for ahead := range 3 {
			h := newHeld(10, mostRoom, 1)
			h.quiet = true
			for range 2 * ahead {
				h.make(t, slices.Repeat([]api.Value{{}}, 15)...)
			}
			a := h.make(t, slices.Repeat([]api.Value{num(9)}, n)...)
			if a != ahead*pageWords {
				t.Fatalf("the large one is at %d", a)
			}
			h.set(t, a, 0, ref(320))
			h.set(t, a, n-1, ref(321))
			h.black(t, a)
			h.lose(t)
			h.quiet = false
			h.units(t, ahead)
			if h.grey.Count() != 1 {
				t.Fatalf("P19.1: a large object is looked at ahead of page %d", ahead)
			}
			h.unit(t)
			if !h.grey.Is(320) || !h.grey.Is(321) || h.grey.Count() != 3 {
				t.Fatalf("P19.1: of %d fields, page %d, marked are %v", n, ahead, h.grey.All())
			}
			h.units(t, 2)
			// Behind the look at where it begins, its fields are not looked at.
			for i := range n {
				h.set(t, a, i, ref(322+i))
			}
			for h.unit(t) {
				if h.grey.Count() != 3 {
					t.Fatalf("P19.1: of %d fields, a large object is looked at in page %d, too", n, h.tracer.Page()-1)
				}
			}
			h.look(t, "a large object")
		}
	}
}

// TestLookAlone: a look shades nothing but what marked objects of its page refer to: page by page, each object alone.
func TestLookAlone(t *testing.T) {
	for p := range 6 {
		for which := range 4 {
			h := newHeld(6, 64, 2)
			h.quiet = true
			for i := range 24 {
				h.make(t, ref(1000+i), ref(1100+i), ref(1200+i), ref(1300+i), ref(1400+i))
			}
			h.black(t, p*pageWords+which*8)
			h.lose(t)
			h.quiet = false
			for i := range 6 {
				h.unit(t)
				want := 1
				if i >= p {
					want = 6
				}
				if h.grey.Count() != want {
					t.Fatalf("P19.1: of one marked object in page %d, behind page %d, %d are marked; want %d", p, i, h.grey.Count(), want)
				}
				for h.grey.Waiting() > 0 {
					h.unit(t)
				}
			}
			if h.unit(t) {
				t.Fatal("P19.1: behind the last page there is a unit")
			}
		}
	}
}

// TestSettles: a unit that settles a loss looks at page 0 as well; with one page alone the look is over by that.
func TestSettles(t *testing.T) {
	for pages := 1; pages <= 4; pages++ {
		h := newOver(4, 5, pages, 2)
		h.make(t, ref(70), ref(71), ref(72))
		h.black(t, 0)
		h.lose(t)
		if h.tracer.Idle() || h.tracer.Page() != -1 || !h.grey.Over() {
			t.Fatal("P19.1: where a loss is noted, it is idle, or looks again ahead of a unit")
		}
		want := 1
		if pages == 1 {
			want = -1
		}
		if !h.unit(t) || h.grey.Over() || h.grey.Count() != 4 || h.tracer.Page() != want || h.tracer.Idle() {
			t.Fatalf("P19.1: of %d pages, the unit that settles: Over() = %t, marked are %v, Page() = %d, Idle() = %t", pages, h.grey.Over(), h.grey.All(), h.tracer.Page(), h.tracer.Idle())
		}
		h.units(t, 3)
		if got, want := h.tracer.Idle(), pages == 1; got != want {
			t.Fatalf("P19.1: of %d pages, what waited is taken: Idle() = %t", pages, got)
		}
		if got := h.all(t); got != pages-1 {
			t.Fatalf("P19.1: of %d pages, %d units are left; want %d", pages, got, pages-1)
		}
		// Once more, without a loss and with one.
		if h.unit(t) {
			t.Fatal("P19.1: without a loss it looks again")
		}
		h.lose(t)
		if got := h.all(t); got != pages {
			t.Fatalf("P19.1: of %d pages, a second look has %d units", pages, got)
		}
		// Whoever settles: then there is nothing to do.
		h.lose(t)
		h.settle(t)
		if h.unit(t) || !h.tracer.Idle() {
			t.Fatal("P19.1: where a loss was settled, there is something to do")
		}
	}
}

// TestLossesWhileItLooks: a loss that is noted ahead of each page, and in the look itself: the look goes on to its end, then a new one begins.
func TestLossesWhileItLooks(t *testing.T) {
	for pages := 1; pages <= 5; pages++ {
		for at := range pages {
			h := newHeld(pages, 3, 2)
			h.lose(t)
			h.units(t, at)
			h.lose(t)
			if at > 0 && h.tracer.Page() != at {
				t.Fatalf("P19.1: a loss is noted: Page() = %d; want %d", h.tracer.Page(), at)
			}
			want := 2*pages - at
			if at == 0 {
				// The two are one.
				want = pages
			}
			for i := range want {
				if h.tracer.Idle() || !h.unit(t) {
					t.Fatalf("P19.1: of %d pages, a loss noted ahead of page %d, there is no unit number %d", pages, at, i)
				}
				if noted := i < pages-at && at > 0; h.grey.Over() != noted {
					t.Fatalf("P19.1: of %d pages, a loss noted ahead of page %d, unit %d, Over() = %t", pages, at, i, h.grey.Over())
				}
			}
			if h.all(t) != 0 {
				t.Fatal("P19.1: a loss leads to more than one look")
			}
		}
	}
	// Each page but the last one loses, as long as there is something that is not marked.
	h := newHeld(4, 1, 1)
	for range 7 {
		a := h.make(t, slices.Repeat([]api.Value{{}}, 12)...)
		for i := range 12 {
			h.set(t, a, i, ref(200+a+i))
		}
	}
	for a := 0; a < 112; a += 16 {
		h.black(t, a)
	}
	h.lose(t)
	for p := range 4 {
		h.unit(t)
		if !h.grey.Over() || h.grey.Waiting() != 1 {
			t.Fatalf("P19.1: page %d: Over() = %t, %d wait", p, h.grey.Over(), h.grey.Waiting())
		}
		h.unit(t)
	}
	if h.tracer.Idle() || h.tracer.Page() != -1 || h.all(t) != 4 || h.grey.Count() != 7+84 {
		t.Fatalf("P19.1: what was lost in a look is not looked at in another one: marked are %v", h.grey.All())
	}
}

// TestNothingToDo: with nothing to do: false, and nothing changes, whatever is there; a mark that does not wait is nothing to do.
func TestNothingToDo(t *testing.T) {
	h := newHeld(4, 3, 2)
	if h.all(t) != 0 {
		t.Fatal("P19.1: of an empty store there is a unit")
	}
	h.make(t, ref(32), ref(33))
	h.make(t, slices.Repeat([]api.Value{ref(99)}, 20)...)
	if h.all(t) != 0 {
		t.Fatal("P19.1: without marks there is a unit")
	}
	h.black(t, 0)
	h.black(t, 77)
	for range 5 {
		if h.unit(t) || !h.tracer.Idle() || h.tracer.Page() != -1 || h.grey.Count() != 2 {
			t.Fatal("P19.1: of marks that don't wait there is a unit")
		}
		h.look(t, "nothing to do")
	}
	h.shade(t, 32)
	if h.tracer.Idle() || h.all(t) == 0 || h.grey.Count() != 4 {
		t.Fatal("P19.1: of one that waits there is no unit")
	}
	h.look(t, "nothing to do again")
}

// TestNotMade: of nil, or one that New did not make: false, true, -1, again and again.
func TestNotMade(t *testing.T) {
	var none *trace.Tracer
	var zero trace.Tracer
	for i, r := range []*trace.Tracer{nil, none, &zero, {}, new(trace.Tracer)} {
		for range 5 {
			if !r.Idle() || r.Page() != -1 || r.Unit() {
				t.Fatalf("P19.1: number %d that New did not make: Idle() = %t, Page() = %d, or there is a unit", i, r.Idle(), r.Page())
			}
		}
	}
}

// TestNoGrey: with a grey that is nil, or that its New did not make, there is nothing to do, of any store.
func TestNoGrey(t *testing.T) {
	full := store.New(4, 1)
	a, _ := full.Slow(0, 3)
	full.Set(a, 1, ref(a))
	for _, s := range []*store.Store{nil, {}, store.New(0, 0), full} {
		for i, g := range []*shade.Grey{nil, {}, new(shade.Grey), (*shade.Grey)(nil).Clone()} {
			for _, n := range []int{least, 0, 1, 2, 64, greatest} {
				r := trace.New(s, g, n, n)
				for range 5 {
					if r == nil || !r.Idle() || r.Page() != -1 || r.Unit() {
						t.Fatalf("P19.1: with grey number %d that New did not make there is something to do", i)
					}
					// It stays none.
					g.Shade(a)
					g.Rest(entry(a, 0))
				}
			}
		}
	}
	if v, ok := full.Get(a, 1); v != ref(a) || !ok || full.Made() != 1 {
		t.Fatal("P19.1: with a grey that New did not make, the store changed")
	}
}

// TestNoStore: with a store that is nil, that its New did not make, or without pages, each entry's object is none: it is taken, and that is all.
func TestNoStore(t *testing.T) {
	for i, s := range []*store.Store{nil, {}, store.New(0, 0), store.New(-5, 3), store.New(3, 0)} {
		for _, pages := range []int{1, 2, 64} {
			g := shade.New(4)
			r := trace.New(s, g, pages, 16)
			if !r.Idle() || r.Unit() || r.Page() != -1 {
				t.Fatalf("P19.1: with store number %d a new one has something to do", i)
			}
			g.Shade(0)
			g.Black(7)
			g.Rest(entry(0, 5))
			g.Rest(entry(least, greatest))
			for n := 3; n > 0; n-- {
				if r.Idle() || g.Waiting() != n || !r.Unit() || g.Waiting() != n-1 || r.Page() != -1 || g.Count() != 2 {
					t.Fatalf("P19.1: with store number %d an entry is not just taken", i)
				}
			}
			for a := range 9 {
				g.Shade(a)
			}
			for n := range 4 {
				if !r.Unit() || g.Waiting() != 3-n || !g.Over() {
					t.Fatalf("P19.1: with store number %d an entry is not just taken, where a loss is noted", i)
				}
			}
			looks := 0
			for r.Unit() {
				looks++
				if g.Over() || looks > pages || (r.Page() != looks) == (looks < pages) {
					t.Fatalf("P19.1: with store number %d, page number %d is not looked at", i, looks)
				}
			}
			if looks != pages || g.Count() != 9 || !r.Idle() || r.Page() != -1 {
				t.Fatalf("P19.1: with store number %d, it looks at %d pages; want %d", i, looks, pages)
			}
		}
	}
}

// TestOtherPages: a tracer of more pages than its store has looks at those that are none, too; of fewer, at those alone.
func TestOtherPages(t *testing.T) {
	for _, stored := range []int{1, 2, 3, 64} {
		for _, pages := range []int{1, 2, 3, 5, 63, 64} {
			h := newOver(stored, 200, pages, 4)
			h.quiet = true
			for range stored {
				a := h.make(t, slices.Repeat([]api.Value{{}}, 16)...)
				h.set(t, a, 15, ref(a+17))
				h.black(t, a)
			}
			h.lose(t)
			h.quiet = false
			if got := h.all(t); got != pages+min(pages, stored) || h.grey.Count() != stored+min(pages, stored) {
				t.Fatalf("P19.1: of %d pages over %d, there are %d units, and %d marks", pages, stored, got, h.grey.Count())
			}
		}
	}
}

// TestWorksOnThose: what is made, written, freed, shaded, cleared and settled between units counts, in the very store and grey that it was handed.
func TestWorksOnThose(t *testing.T) {
	h := newHeld(4, 3, 1)
	h.shade(t, 0)
	a := h.make(t, ref(70), ref(71), ref(72))
	h.unit(t)
	if a != 0 || !h.grey.Is(70) {
		t.Fatal("P19.1: what was made behind New and Shade is not gone through")
	}
	h.next(t)
	h.set(t, a, 1, ref(90))
	h.unit(t)
	if h.grey.Is(71) || !h.grey.Is(90) {
		t.Fatal("P19.1: what was written between units does not count")
	}
	h.next(t)
	h.clear(t, a)
	h.unit(t)
	if !h.grey.Is(72) {
		t.Fatal("P19.1: what waits and is not marked is not gone through")
	}
	h.next(t)
	if !h.tracer.Idle() {
		t.Fatal("P19.1: what was taken by others still waits")
	}
	h.black(t, a)
	h.lose(t)
	h.clear(t, a)
	h.clear(t, 90)
	h.unit(t)
	if h.grey.Is(90) || h.tracer.Page() != 1 {
		t.Fatal("P19.1: what was cleared is looked at")
	}
	b := h.make(t, slices.Repeat([]api.Value{ref(100)}, 20)...)
	h.black(t, b)
	c := h.make(t, slices.Repeat([]api.Value{ref(101)}, 20)...)
	h.black(t, c)
	h.free(t, c)
	h.units(t, 3)
	if !h.grey.Is(100) || h.grey.Is(101) {
		t.Fatal("P19.1: what was made while it looks is not looked at, or what was freed is")
	}
	h.lose(t)
	h.settle(t)
	h.all(t)
	h.look(t, "what others did")
	// Two tracers of one store and one grey: what one does the other one finds done; each looks for itself.
	other := trace.New(h.store, h.grey, 4, 1)
	h.lose(t)
	h.unit(t)
	if other.Page() != -1 || !other.Idle() || other.Unit() || h.tracer.Page() != 1 {
		t.Fatal("P19.1: another one looks, or can tell that one does")
	}
	h.shade(t, 1)
	if other.Idle() || !other.Unit() || !other.Idle() || other.Page() != -1 || h.grey.Waiting() != 0 || h.tracer.Page() != 1 {
		t.Fatal("P19.1: another one has nothing to do where one waits")
	}
}

// TestApart: P3: tracers of other stores and greys have nothing in common.
func TestApart(t *testing.T) {
	a, b := newHeld(4, 2, 2), newHeld(4, 2, 2)
	for i := range 6 {
		for _, h := range []*held{a, b} {
			h.make(t, ref(i*2), ref(100), ref(200))
		}
	}
	r := rule(5)
	for i := range 600 {
		a.step(t, &r)
		b.glance(t, "another one went on")
		if i%3 == 0 {
			b.step(t, &r)
			a.glance(t, "another one went on")
		}
	}
	a.look(t, "behind all")
	b.look(t, "behind all")
}
