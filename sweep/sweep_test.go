package sweep_test

import (
	"slices"
	"testing"

	"scutage/api"
	"scutage/shade"
	"scutage/stack"
	"scutage/store"
	"scutage/sweep"
)

// TestExample: the chapter's: of one page without marks: all of it is free.
func TestExample(t *testing.T) {
	s, g := store.New(1, 1), shade.New(1)
	w := sweep.New(s, g, 1)
	for range 4 {
		s.Slow(0, 7)
	}
	s.Quit(0)
	w.Start()
	if s.Pages() != 0 || !w.Unit() || s.Pages() != 1 || s.Kind(0) != 0 || len(s.Objects()) != 0 || w.Freed() != 4 || !w.Done() {
		t.Error("P20.1: of one page without marks all is not free")
	}
}

// TestWrittenOut: a sweep worked out by hand from the chapter.
func TestWrittenOut(t *testing.T) {
	s, g := store.New(5, 2), shade.New(4)
	w := sweep.New(s, g, 5)
	tell := func(when string, at int, done bool, freed int, objects []int, marked []int, kinds ...int) {
		t.Helper()
		if w.At() != at || w.Done() != done || w.Freed() != freed {
			t.Errorf("P20.1: %s: At() = %d, Done() = %t, Freed() = %d; want %d, %t, %d", when, w.At(), w.Done(), w.Freed(), at, done, freed)
		}
		if !slices.Equal(s.Objects(), objects) || !slices.Equal(g.All(), marked) {
			t.Errorf("P20.1: %s: objects are at %v, marked are %v; want %v, %v", when, s.Objects(), g.All(), objects, marked)
		}
		for p, want := range kinds {
			if got := s.Kind(p); got != want {
				t.Errorf("P20.1: %s: page %d is of kind %d; want %d", when, p, got, want)
			}
		}
	}
	unit := func(want bool) {
		t.Helper()
		if got := w.Unit(); got != want {
			t.Errorf("P20.1: Unit() = %t; want %t", got, want)
		}
	}
	// Two at 0 and 16, one at 32 that goes on into page 2, two of another thread at 96 and 104, one at 128.
	for i, made := range []struct{ thread, fields, at int }{{0, 15, 0}, {0, 15, 16}, {0, 40, 32}, {1, 7, 96}, {1, 7, 104}, {0, 20, 128}} {
		if a, err := s.Slow(made.thread, made.fields); a != made.at || err != api.OK {
			t.Fatalf("object number %d is at %d, %d; want %d", i, a, err, made.at)
		}
	}
	s.Quit(0)
	s.Set(104, 6, num(-4))
	tell("new", 5, true, 0, []int{0, 16, 32, 96, 104, 128}, nil, 4, 5, 6, 3, 5)
	g.Black(16)
	g.Black(17)
	g.Black(104)
	g.Black(128)
	unit(false)
	tell("ahead of Start", 5, true, 0, []int{0, 16, 32, 96, 104, 128}, []int{16, 17, 104, 128}, 4, 5, 6, 3, 5)
	w.Start()
	tell("started", 0, false, 0, []int{0, 16, 32, 96, 104, 128}, []int{16, 17, 104, 128}, 4, 5, 6, 3, 5)
	unit(true)
	tell("page 0", 1, false, 1, []int{16, 32, 96, 104, 128}, []int{17, 104, 128}, 4, 5, 6, 3, 5)
	unit(true)
	tell("page 1", 2, false, 2, []int{16, 96, 104, 128}, []int{17, 104, 128}, 4, 0, 0, 3, 5)
	unit(true)
	tell("page 2", 3, false, 2, []int{16, 96, 104, 128}, []int{17, 104, 128}, 4, 0, 0, 3, 5)
	unit(true)
	tell("page 3", 4, false, 3, []int{16, 104, 128}, []int{17, 128}, 4, 0, 0, 3, 5)
	if v, ok := s.Get(104, 6); v != num(-4) || !ok || s.Fields(104) != 7 || s.Serial(104) != 4 {
		t.Errorf("P20.1: the marked object at 104 is not as it was: %v, %t", v, ok)
	}
	unit(true)
	tell("page 4", 5, true, 3, []int{16, 104, 128}, []int{17}, 4, 0, 0, 3, 5)
	unit(false)
	tell("done", 5, true, 3, []int{16, 104, 128}, []int{17}, 4, 0, 0, 3, 5)
	w.Start()
	for range 5 {
		unit(true)
	}
	unit(false)
	// Page 3 is thread 1's.
	tell("once more", 5, true, 3, nil, []int{17}, 0, 0, 0, 3, 0)
	if s.Owner(3) != 1 || s.Pages() != 4 {
		t.Errorf("P20.1: page 3 is %d's, %d pages are free; want 1, 4", s.Owner(3), s.Pages())
	}
}

// numbers are those from below one end to above the other one, and far ones.
func numbers(lo int, hi int) []int {
	l := far()
	for n := lo; n <= hi; n++ {
		l = append(l, n)
	}
	return l
}

// TestNewPages: each number of pages, beyond each end, and far out: At and Done end there, and no page behind is gone through.
func TestNewPages(t *testing.T) {
	for _, pages := range numbers(-20, 90) {
		h := newOver(mostPages, 1, pages)
		h.quiet = true
		for range mostPages {
			h.fill(t, 0, 31, 1)
		}
		want := nearest(pages, 1, mostPages)
		if h.sweeper == nil || h.sweeper.At() != want || !h.sweeper.Done() || h.sweeper.Freed() != 0 || h.unit(t) {
			t.Fatalf("P20.1: New with %d pages: At() = %d, Done() = %t, or there is a unit; want %d", pages, h.sweeper.At(), h.sweeper.Done(), want)
		}
		h.start(t)
		for p := range want {
			if h.sweeper.At() != p || h.sweeper.Done() || h.sweeper.Freed() != p || !h.unit(t) {
				t.Fatalf("P20.1: of New with %d pages, page %d: At() = %d, Done() = %t, or there is no unit", pages, p, h.sweeper.At(), h.sweeper.Done())
			}
			h.glance(t, "a page")
		}
		if h.sweeper.At() != want || !h.sweeper.Done() || h.unit(t) || h.store.Pages() != want {
			t.Fatalf("P20.1: of New with %d pages, behind the last one: At() = %d, Done() = %t, %d were gone through", pages, h.sweeper.At(), h.sweeper.Done(), h.store.Pages())
		}
		h.look(t, "behind all pages")
	}
}

// TestNewLeaves: P2: New, Start, At, Done and Freed change neither the store nor the grey, and a new one is done, whatever there is.
func TestNewLeaves(t *testing.T) {
	h := newHeld(4, 2)
	h.fill(t, 0, 15, 3)
	h.fill(t, 1, 40, 1)
	h.shade(t, 16)
	h.black(t, 5)
	for pages := 1; pages <= 5; pages++ {
		w := sweep.New(h.store, h.grey, pages)
		for range 3 {
			if !w.Done() || w.At() != pages || w.Freed() != 0 || w.Unit() {
				t.Fatalf("P20.1: a new one of %d pages: At() = %d, Done() = %t, Freed() = %d, or there is a unit", pages, w.At(), w.Done(), w.Freed())
			}
			h.look(t, "a new one")
		}
		for range 3 {
			w.Start()
			if w.Done() || w.At() != 0 || w.Freed() != 0 {
				t.Fatalf("P20.1: one of %d pages that started: At() = %d, Done() = %t, Freed() = %d", pages, w.At(), w.Done(), w.Freed())
			}
			h.look(t, "another one started")
		}
	}
}

// TestStart: ahead of each page, and behind the last one: it begins at page 0, and nothing was freed.
func TestStart(t *testing.T) {
	for pages := 1; pages <= 6; pages++ {
		for at := 0; at <= pages; at++ {
			h := newHeld(pages, 1)
			for range pages {
				h.fill(t, 0, 31, 1)
			}
			h.start(t)
			h.units(t, at)
			if h.sweeper.Freed() != at {
				t.Fatalf("P20.1: behind %d pages, Freed() = %d", at, h.sweeper.Freed())
			}
			for range 2 {
				h.start(t)
				if h.sweeper.At() != 0 || h.sweeper.Done() || h.sweeper.Freed() != 0 {
					t.Fatalf("P20.1: started ahead of page %d: At() = %d, Done() = %t, Freed() = %d", at, h.sweeper.At(), h.sweeper.Done(), h.sweeper.Freed())
				}
			}
			// The pages ahead of where it was are gone through once more.
			for range at {
				h.fill(t, 0, 20, 1)
			}
			if n := h.all(t); n != pages || h.sweeper.Freed() != pages || h.store.Pages() != pages {
				t.Fatalf("P20.1: started ahead of page %d of %d, %d units freed %d", at, pages, n, h.sweeper.Freed())
			}
		}
	}
}

// What stands in a cell.
const (
	empty = iota
	bare
	marked
	states // how many there are
)

// Whose a page is.
const (
	threads = iota // the thread's own
	nobodys        // nobody's, made so while there were objects
	elders         // nobody's, as the thread has another one of its class
	whose          // how many there are
)

// laid is a store whose page 0 is of class k, with its cells as told; a pattern is states to the power of cells at most. Pages 1 and 2 are there besides, and a mark in each.
func laid(t *testing.T, k int, pattern int, of int) *held {
	t.Helper()
	h := newHeld(3, 2)
	h.quiet = true
	cells := h.fill(t, 0, most[k], counts[k])
	h.fill(t, 1, most[k], 1)
	h.fill(t, 1, 20, 1)
	h.black(t, pageWords, 2*pageWords)
	switch of {
	case nobodys:
		h.quit(t, 0)
	case elders:
		h.free(t, 2*pageWords)
		h.fill(t, 0, most[k], 1)
	}
	for _, a := range cells {
		switch pattern % states {
		case empty:
			h.free(t, a)
		case marked:
			h.black(t, a)
		}
		pattern /= states
	}
	h.quiet = false
	return h
}

// page sweeps page 0 of a laid store, and wants what the chapter says of it.
func page(t *testing.T, k int, pattern int, of int) {
	t.Helper()
	h := laid(t, k, pattern, of)
	stay := slices.DeleteFunc(h.plain.both(), func(a int) bool { return a >= pageWords })
	in := len(h.store.In(0))
	h.start(t)
	h.unit(t)
	if got := h.store.In(0); !slices.Equal(got, stay) || h.sweeper.Freed() != in-len(stay) {
		t.Fatalf("P20.1: class %d, pattern %d: in page 0 stay %v, freed are %d; want %v, %d", k, pattern, got, h.sweeper.Freed(), stay, in-len(stay))
	}
	for a := range pageWords {
		if h.grey.Is(a) {
			t.Fatalf("P20.1: class %d, pattern %d: behind its page %d is marked", k, pattern, a)
		}
	}
	kind := k
	if of != threads && len(stay) == 0 {
		kind = 0
	}
	if h.store.Kind(0) != kind {
		t.Fatalf("P20.1: class %d, pattern %d, owner %d: behind it page 0 is of kind %d; want %d", k, pattern, h.store.Owner(0), h.store.Kind(0), kind)
	}
	if pattern%7 == 0 {
		h.refill(t)
	}
}

// power is n times itself, so often.
func power(n int, times int) int {
	p := 1
	for range times {
		p *= n
	}
	return p
}

// TestPages: a page of each class, each of its cells empty, with an object, and with a marked one; the thread's own, and nobody's: of few cells all patterns, of many some, and those with one cell that is unlike the others.
func TestPages(t *testing.T) {
	for k := 1; k <= 4; k++ {
		all := power(states, counts[k])
		for of := range whose {
			if all <= 81 {
				for pattern := range all {
					page(t, k, pattern, of)
				}
				continue
			}
			for i := range 700 {
				page(t, k, i*(all/700)+i*i%97, of)
			}
			for state := range states {
				same := state * (all - 1) / (states - 1)
				page(t, k, same, of)
				for cell := range counts[k] {
					for unlike := range states {
						page(t, k, same+(unlike-state)*power(states, cell), of)
					}
				}
			}
		}
	}
}

// TestFieldCounts: objects of each number of fields, alone in their page, marked and not.
func TestFieldCounts(t *testing.T) {
	for n := range 128 {
		for _, mark := range []bool{false, true} {
			h := newHeld(6, 1)
			h.quiet = true
			h.fill(t, 0, n, 1)
			h.quit(t, 0)
			h.quiet = false
			want := 1
			if mark {
				h.black(t, 0)
				want = 0
			}
			h.sweep(t)
			if h.sweeper.Freed() != want || h.grey.Count() != 0 || h.store.Pages() == 6 == mark {
				t.Fatalf("P20.1: of an object with %d fields, marked: %t: freed are %d, %d marks are left, %d pages are free", n, mark, h.sweeper.Freed(), h.grey.Count(), h.store.Pages())
			}
			h.sweep(t)
			if h.sweeper.Freed() != 1-want || h.store.Pages() != 6 {
				t.Fatalf("P20.2: of an object with %d fields, once more: freed are %d, %d pages are free", n, h.sweeper.Freed(), h.store.Pages())
			}
		}
	}
}

// TestLarge: a large object is freed, or its mark is cleared, where it begins, and only there; freed, all of its pages are free.
func TestLarge(t *testing.T) {
	for _, n := range []int{16, 30, 31, 32, 62, 63, 64, 94, 95, 96, 126, 127} {
		count := (1 + n + pageWords - 1) / pageWords
		for ahead := range 3 {
			for _, mark := range []bool{false, true} {
				h := newHeld(9, 1)
				h.quiet = true
				h.fill(t, 0, 15, 2*ahead)
				a := h.fill(t, 0, n, 1)[0]
				b := h.fill(t, 0, 40, 1)[0]
				if a != ahead*pageWords || b != a+count*pageWords {
					t.Fatalf("the large ones are at %d and %d", a, b)
				}
				h.black(t, b)
				// Within the object no object begins.
				h.black(t, a+1, a+n)
				if mark {
					h.black(t, a)
				}
				h.quiet = false
				h.start(t)
				h.units(t, ahead)
				if h.grey.Is(a) != mark || h.store.Fields(a) != n || h.sweeper.Freed() != 2*ahead {
					t.Fatalf("P20.1: of %d fields, a large object at %d is freed, or its mark is cleared, ahead of its page", n, a)
				}
				h.unit(t)
				want := 0
				if mark {
					want = large
				}
				if h.grey.Is(a) || (h.store.Fields(a) == n) != mark || h.store.Kind(ahead) != want || (h.store.Kind(ahead+count-1) == 0) == mark {
					t.Fatalf("P20.1: of %d fields, a large object at %d, marked: %t, is not as told behind its page", n, a, mark)
				}
				if mark {
					// Marked anew, it is not come by again.
					h.black(t, a)
				}
				for range count - 1 {
					h.unit(t)
					if h.grey.Is(a) != mark || (h.store.Fields(a) == n) != mark {
						t.Fatalf("P20.1: of %d fields, a large object at %d is looked at in page %d, too", n, a, h.sweeper.At()-1)
					}
				}
				if !h.grey.Is(b) || h.store.Fields(b) != 40 {
					t.Fatal("P20.1: the object behind a large one is freed, or its mark is cleared")
				}
				h.all(t)
				if h.grey.Is(b) || h.store.Fields(b) != 40 || !h.grey.Is(a+1) || !h.grey.Is(a+n) {
					t.Fatal("P20.1: the object behind a large one is not as told, or a mark within is cleared")
				}
				h.refill(t)
			}
		}
	}
}

// TestUnmarkedLarge: a large object that is made and not marked behind the page where it begins stays: later pages of it don't count.
func TestUnmarkedLarge(t *testing.T) {
	for late := 1; late <= 4; late++ {
		h := newHeld(6, 1)
		h.start(t)
		h.units(t, late)
		h.fill(t, 0, 127, 1)
		h.all(t)
		if h.store.Fields(0) != 127 || h.sweeper.Freed() != 0 {
			t.Fatalf("P20.1: a large object is freed from page %d of it on", late)
		}
		h.sweep(t)
		if h.store.Pages() != 6 {
			t.Fatal("P20.2: a large object without a mark stays")
		}
	}
}

// TestFreePages: units of pages that are free: nothing but that they are behind it; and of pages without an object that are not free.
func TestFreePages(t *testing.T) {
	h := newHeld(8, 2)
	h.sweep(t)
	h.black(t, 0, 31, 32, 64, 255)
	h.sweep(t)
	if h.store.Pages() != 8 || h.sweeper.Freed() != 0 || h.grey.Count() != 5 {
		t.Fatalf("P20.1: of free pages, %d are free, freed are %d, %d marks are left", h.store.Pages(), h.sweeper.Freed(), h.grey.Count())
	}
	// Of each class a page that is the thread's, and nobody's, without an object.
	for k := 1; k <= 4; k++ {
		h.free(t, h.fill(t, 0, most[k], 1)[0])
		a := h.fill(t, 1, most[k], 1)[0]
		h.quit(t, 1)
		h.free(t, a)
	}
	if h.store.Pages() != 0 {
		t.Fatalf("%d pages are free; want none", h.store.Pages())
	}
	h.start(t)
	for k := 1; k <= 4; k++ {
		h.units(t, 2)
		if h.store.Pages() != k || h.store.Owner(2*k-2) != 0 || h.store.Kind(2*k-2) != k || h.store.Kind(2*k-1) != 0 {
			t.Fatalf("P20.1: of class %d, pages without an object are of kinds %d and %d, %d are free", k, h.store.Kind(2*k-2), h.store.Kind(2*k-1), h.store.Pages())
		}
	}
	if h.sweeper.Freed() != 0 {
		t.Fatalf("P20.1: of pages without an object, freed are %d", h.sweeper.Freed())
	}
	h.refill(t)
}

// TestOwn: a thread's own page stays its own, and is free behind the first sweep when it is given up; each thread's.
func TestOwn(t *testing.T) {
	for k := 1; k <= 4; k++ {
		for _, count := range []int{0, 1, counts[k]} {
			h := newHeld(6, 3)
			for thread := range 3 {
				l := h.fill(t, thread, most[k], counts[k])
				h.black(t, l[:count]...)
			}
			h.sweep(t)
			for thread := range 3 {
				if h.store.Owner(thread) != thread || h.store.Kind(thread) != k || len(h.store.In(thread)) != count {
					t.Fatalf("P20.1: page %d is %d's, of kind %d; want its own thread's, %d", thread, h.store.Owner(thread), h.store.Kind(thread), k)
				}
			}
			h.quit(t, 1)
			want := 3
			if count == 0 {
				// It is without an object already.
				want++
			}
			if h.store.Pages() != want {
				t.Fatalf("%d pages are free; want %d", h.store.Pages(), want)
			}
			h.sweep(t)
			if h.store.Owner(0) != 0 || h.store.Kind(0) != k || h.store.Kind(1) != 0 || h.store.Owner(1) != -1 || h.store.Owner(2) != 2 || h.store.Pages() != 4 {
				t.Fatalf("P20.1: where a thread gave its page up, pages are of kinds %v", h.plain.kinds)
			}
			// It goes on from its page.
			a, ok := h.store.Fast(0, most[k])
			if !ok || a >= pageWords {
				t.Fatalf("P20.1: behind a sweep, thread 0 makes an object at %d, %t", a, ok)
			}
		}
	}
}

// TestOrder: objects are freed in order, so that the last one's cell is taken first: of each set of marks.
func TestOrder(t *testing.T) {
	for set := range 256 {
		h := newHeld(2, 1)
		h.quiet = true
		var freed []int
		for i, a := range h.fill(t, 0, 3, 8) {
			if set>>i&1 == 1 {
				h.black(t, a)
			} else {
				freed = append(freed, a)
			}
		}
		h.quiet = false
		h.sweep(t)
		slices.Reverse(freed)
		for _, want := range freed {
			if got, ok := h.store.Fast(0, 3); got != want || !ok {
				t.Fatalf("P20.1: behind a sweep that freed, falling, %v, an object is made at %d; want %d", freed, got, want)
			}
		}
	}
}

// TestMarksOfNone: marks of addresses at which no object begins stay, and nothing is freed for them: each address alone, below an object, within it, in free cells and pages, and beyond the store.
func TestMarksOfNone(t *testing.T) {
	for a := range 7*pageWords + 3 {
		h := newHeld(6, 2)
		h.quiet = true
		h.fill(t, 0, 7, 3)
		h.fill(t, 0, 40, 1)
		h.fill(t, 1, 15, 2)
		h.quit(t, 1)
		stood := h.plain.stood()
		is := slices.Contains(stood, a)
		h.black(t, a)
		h.sweep(t)
		want := len(stood)
		if is {
			want--
		}
		if h.grey.Is(a) == is || h.sweeper.Freed() != want {
			t.Fatalf("P20.1: of objects at %v, and a mark of %d, freed are %d, and it is left: %t", stood, a, h.sweeper.Freed(), h.grey.Is(a))
		}
		h.look(t, "a mark")
	}
	// All addresses at once, and each page by itself.
	h := newHeld(6, 2)
	h.quiet = true
	h.fill(t, 0, 7, 3)
	h.fill(t, 0, 40, 1)
	h.fill(t, 1, 15, 2)
	stood := len(h.plain.stood())
	for a := range addresses {
		h.black(t, a)
	}
	h.quiet = false
	h.sweep(t)
	if h.sweeper.Freed() != 0 || h.grey.Count() != addresses-stood {
		t.Fatalf("P20.1: where all is marked, freed are %d, %d marks are left; want 0, %d", h.sweeper.Freed(), h.grey.Count(), addresses-stood)
	}
	h.sweep(t)
	if h.sweeper.Freed() != stood || h.grey.Count() != addresses-stood {
		t.Fatalf("P20.1: once more, freed are %d, %d marks are left; want %d, %d", h.sweeper.Freed(), h.grey.Count(), stood, addresses-stood)
	}
}

// TestMarkOfNoneTurnsOne: a mark that a free cell keeps is that of the object that is made there.
func TestMarkOfNoneTurnsOne(t *testing.T) {
	h := newHeld(2, 1)
	h.black(t, 0, 16)
	h.sweep(t)
	h.fill(t, 0, 15, 2)
	h.clear(t, 16)
	h.sweep(t)
	if h.store.Fields(0) != 15 || h.store.Fields(16) != -1 || h.grey.Count() != 0 || h.sweeper.Freed() != 1 {
		t.Fatal("P20.1: a mark that was there ahead of its object does not count, or stays")
	}
}

// TestBetween: marks and objects that are made, cleared and freed between units, in pages that were swept and in pages that were not.
func TestBetween(t *testing.T) {
	for at := 0; at <= 6; at++ {
		h := newHeld(6, 1)
		h.quiet = true
		// Two in each page; the first of each is marked, and the elder pages are nobody's.
		var firsts, seconds []int
		for range 6 {
			l := h.fill(t, 0, 15, 2)
			firsts, seconds = append(firsts, l[0]), append(seconds, l[1])
			h.black(t, l[0])
		}
		h.quiet = false
		h.start(t)
		h.units(t, at)
		for p := range 6 {
			swept := p < at
			if (h.store.Fields(seconds[p]) == -1) != swept || h.grey.Is(firsts[p]) == swept {
				t.Fatalf("P20.1: behind %d units, page %d is not as told", at, p)
			}
		}
		if at > 1 {
			// In a swept page: one that is marked, one that is made, one that is freed.
			h.black(t, firsts[0])
			h.free(t, firsts[1])
			if a := h.make(t, 0, 15); a >= at*pageWords {
				t.Fatalf("an object is made at %d; want one of a page ahead of %d", a, at)
			}
		}
		if at < 5 {
			// In one that is not: a mark more, one less, and an object less.
			h.black(t, seconds[at])
			h.clear(t, firsts[at])
			h.free(t, firsts[5])
		}
		freed := h.sweeper.Freed()
		h.all(t)
		if at > 1 && (!h.grey.Is(firsts[0]) || h.store.Fields(firsts[0]) != 15) {
			t.Fatal("P20.1: what was marked in a swept page lost its mark, or is freed")
		}
		if at < 5 {
			if h.store.Fields(seconds[at]) != 15 || h.grey.Is(seconds[at]) || h.store.Fields(firsts[at]) != -1 {
				t.Fatal("P20.1: what was marked, or cleared, ahead of its page does not count")
			}
			// One in each page, and one in the last one; its other one was freed by another, and left its mark.
			if got, want := h.sweeper.Freed()-freed, 6-at; got != want || !h.grey.Is(firsts[5]) {
				t.Fatalf("P20.1: behind unit %d, freed are %d; want %d", at, got, want)
			}
		}
		h.refill(t)
	}
}

// TestMadeBetween: what is made without a mark in a page that is not swept yet is freed in it; in a swept page it stays.
func TestMadeBetween(t *testing.T) {
	for at := 0; at <= 4; at++ {
		h := newHeld(4, 1)
		h.start(t)
		h.units(t, at)
		l := h.fill(t, 0, 31, 4)
		h.all(t)
		for p, a := range l {
			if (h.store.Fields(a) == 31) != (p < at) {
				t.Fatalf("P20.1: made ahead of page %d, the object of page %d is there: %t", at, p, h.store.Fields(a) == 31)
			}
		}
		if h.sweeper.Freed() != 4-at {
			t.Fatalf("P20.1: made ahead of page %d, freed are %d", at, h.sweeper.Freed())
		}
	}
}

// TestQuitBetween: a page that its thread gives up ahead of the page's unit is free behind it; one behind the unit is given up by Quit.
func TestQuitBetween(t *testing.T) {
	for at := 0; at <= 3; at++ {
		h := newHeld(3, 3)
		for thread := range 3 {
			h.fill(t, thread, 1, 5)
		}
		h.start(t)
		h.units(t, at)
		if h.store.Pages() != 0 {
			t.Fatalf("P20.1: a thread's own page is free behind %d units", at)
		}
		h.quit(t, 0)
		h.quit(t, 2)
		h.all(t)
		if h.store.Kind(0) != 0 || h.store.Kind(1) != 1 || h.store.Owner(1) != 1 || h.store.Kind(2) != 0 || h.sweeper.Freed() != 15 {
			t.Fatalf("P20.1: given up ahead of page %d, pages are of kinds %d, %d, %d", at, h.store.Kind(0), h.store.Kind(1), h.store.Kind(2))
		}
	}
}

// TestLast: behind the last page it is done: Unit is false, and nothing changes, whatever is there, until it starts.
func TestLast(t *testing.T) {
	for pages := 1; pages <= 5; pages++ {
		h := newHeld(pages, 1)
		h.fill(t, 0, 7, 4*pages)
		h.black(t, 0, pages*pageWords-8)
		h.start(t)
		for p := range pages {
			if h.sweeper.Done() || h.sweeper.At() != p || !h.unit(t) {
				t.Fatalf("P20.1: of %d pages it is done ahead of page %d", pages, p)
			}
		}
		want := 4*pages - 2
		for range 4 {
			if !h.sweeper.Done() || h.sweeper.At() != pages || h.sweeper.Freed() != want || h.unit(t) {
				t.Fatalf("P20.1: of %d pages, behind the last one: Done() = %t, At() = %d, Freed() = %d, or there is a unit", pages, h.sweeper.Done(), h.sweeper.At(), h.sweeper.Freed())
			}
		}
		// What is there is not marked any more, and what is made neither.
		h.make(t, 0, 7)
		h.make(t, 0, 20)
		for range 3 {
			if h.unit(t) || h.store.Fields(0) != 7 || h.sweeper.Freed() != want {
				t.Fatalf("P20.1: of %d pages, behind the last one something changes", pages)
			}
		}
		h.sweep(t)
		if got := h.store.Objects(); len(got) != 0 {
			t.Fatalf("P20.2: once more, objects are at %v", got)
		}
	}
}

// TestFreed: how many were freed, page by page, of pages with each number of objects, and anew behind a Start.
func TestFreed(t *testing.T) {
	h := newHeld(17, 1)
	h.quiet = true
	var firsts []int
	for range 17 {
		firsts = append(firsts, h.fill(t, 0, 1, 16)[0])
	}
	h.quit(t, 0)
	for p, a := range firsts {
		for i := range p {
			h.black(t, a+2*i)
		}
	}
	h.start(t)
	freed := 0
	for p := range 17 {
		h.unit(t)
		freed += 16 - p
		if h.sweeper.Freed() != freed || len(h.store.In(p)) != p {
			t.Fatalf("P20.1: behind page %d, Freed() = %d, %d are left in it; want %d, %d", p, h.sweeper.Freed(), len(h.store.In(p)), freed, p)
		}
	}
	h.start(t)
	freed = 0
	for p := range 17 {
		h.unit(t)
		freed += p
		if h.sweeper.Freed() != freed || len(h.store.In(p)) != 0 {
			t.Fatalf("P20.1: once more, behind page %d, Freed() = %d, %d are left in it; want %d, 0", p, h.sweeper.Freed(), len(h.store.In(p)), freed)
		}
	}
	// What others free does not count.
	h.free(t, h.fill(t, 0, 1, 1)[0])
	if h.sweeper.Freed() != freed {
		t.Fatalf("P20.1: where another one freed, Freed() = %d; want %d", h.sweeper.Freed(), freed)
	}
	h.start(t)
	if h.sweeper.Freed() != 0 {
		t.Fatalf("P20.1: behind Start, Freed() = %d", h.sweeper.Freed())
	}
	h.all(t)
	h.look(t, "all was freed")
}

// TestFreedMost: all objects that there can be, freed in one sweep, and counted.
func TestFreedMost(t *testing.T) {
	h := newHeld(mostPages, 1)
	h.quiet = true
	all := addresses / sizes[1]
	h.fill(t, 0, 0, all)
	h.quit(t, 0)
	h.sweep(t)
	h.look(t, "all that there can be")
	if h.sweeper.Freed() != all || h.store.Pages() != mostPages {
		t.Fatalf("P20.1: of %d objects, Freed() = %d, %d pages are free", all, h.sweeper.Freed(), h.store.Pages())
	}
}

// TestWaits: what waits in the grey, and a loss that is noted, stay: marks alone are cleared.
func TestWaits(t *testing.T) {
	for _, count := range []int{0, 1, 2, 3, 4, 5} {
		h := newHeld(3, 1)
		l := h.fill(t, 0, 7, 8)
		for _, a := range l[:count] {
			h.shade(t, a)
		}
		h.sweep(t)
		if h.grey.Waiting() != min(count, 3) || h.grey.Over() != (count > 3) || h.grey.Count() != 0 {
			t.Fatalf("P20.1: of %d that were shaded, %d wait, Over() = %t, %d marks are left", count, h.grey.Waiting(), h.grey.Over(), h.grey.Count())
		}
		h.sweep(t)
		for i := range min(count, 3) {
			e, ok := h.grey.Next()
			if want := (stack.Entry{At: l[min(count, 3)-1-i]}); e != want || !ok {
				t.Fatalf("P20.1: what waits is %v, %t; want %v", e, ok, want)
			}
		}
	}
}

// TestReferences: what fields refer to does not count: an unmarked object goes though marked ones refer to it, and fields that lead to it stay.
func TestReferences(t *testing.T) {
	h := newHeld(3, 1)
	l := h.fill(t, 0, 15, 5)
	h.set(t, l[0], 0, ref(l[1]))
	h.set(t, l[0], 1, ref(l[4]))
	h.set(t, l[1], 0, ref(l[0]))
	h.set(t, l[3], 2, ref(l[3]))
	h.black(t, l[0])
	h.sweep(t)
	if got, ok := h.store.Get(l[0], 1); !slices.Equal(h.store.Objects(), l[:1]) || got != ref(l[4]) || !ok {
		t.Fatalf("P20.1: of one marked object, what is there is %v, and its field %v, %t", h.store.Objects(), got, ok)
	}
}

// TestNotMade: of nil, or one that New did not make: false, 0, true; nothing, again and again.
func TestNotMade(t *testing.T) {
	var none *sweep.Sweeper
	var zero sweep.Sweeper
	for i, w := range []*sweep.Sweeper{nil, none, &zero, {}, new(sweep.Sweeper)} {
		for n := range 6 {
			if w.Unit() || w.At() != 0 || !w.Done() || w.Freed() != 0 {
				t.Fatalf("P20.1: number %d that New did not make: At() = %d, Done() = %t, Freed() = %d, or there is a unit", i, w.At(), w.Done(), w.Freed())
			}
			for range n {
				w.Start()
			}
		}
	}
}

// full is a store of four pages with objects, and how many there are.
func full() (*store.Store, int) {
	s := store.New(4, 2)
	n := 0
	for _, made := range []struct{ thread, fields int }{{0, 15}, {0, 15}, {0, 40}, {1, 3}} {
		if _, err := s.Slow(made.thread, made.fields); err == api.OK {
			n++
		}
	}
	return s, n
}

// TestNoGrey: with a grey that is nil, or that its New did not make, nothing is marked: all objects are freed.
func TestNoGrey(t *testing.T) {
	for i, g := range []*shade.Grey{nil, {}, new(shade.Grey), (*shade.Grey)(nil).Clone()} {
		for _, pages := range []int{least, 0, 1, 2, 3, 4, 9, 64, greatest} {
			s, n := full()
			w := sweep.New(s, g, pages)
			want := nearest(pages, 1, mostPages)
			if w == nil || !w.Done() || w.At() != want || w.Unit() || len(s.Objects()) != n {
				t.Fatalf("P20.1: with grey number %d that New did not make, a new one is not done", i)
			}
			for _, a := range s.Objects() {
				g.Shade(a)
			}
			w.Start()
			freed := 0
			for p := range want {
				freed += len(s.In(p))
				if w.At() != p || w.Done() || !w.Unit() || w.Freed() != freed || len(s.In(p)) != 0 {
					t.Fatalf("P20.1: with grey number %d that New did not make, page %d: Freed() = %d; want %d", i, p, w.Freed(), freed)
				}
			}
			if w.Unit() || !w.Done() || w.At() != want || len(s.Objects())+w.Freed() != n {
				t.Fatalf("P20.1: with grey number %d that New did not make, behind the last page there is a unit, or objects are missed", i)
			}
			if want >= 4 && (w.Freed() != n || s.Pages() != 2 || s.Owner(0) != 0 || s.Owner(3) != 1 || g.Count() != 0) {
				t.Fatalf("P20.1: with grey number %d that New did not make, freed are %d, %d pages are free", i, w.Freed(), s.Pages())
			}
		}
	}
}

// TestNoStore: with a store that is nil, that its New did not make, or without pages, there is no object: marks stay, and nothing is freed.
func TestNoStore(t *testing.T) {
	for i, s := range []*store.Store{nil, {}, new(store.Store), store.New(0, 0), store.New(-5, 3), store.New(3, 0)} {
		for _, g := range []*shade.Grey{shade.New(4), nil, {}} {
			for _, pages := range []int{least, -1, 1, 2, 3, 64, greatest} {
				w := sweep.New(s, g, pages)
				want := nearest(pages, 1, mostPages)
				g.Shade(0)
				g.Black(33)
				marks := g.Count()
				if !w.Done() || w.At() != want || w.Unit() {
					t.Fatalf("P20.1: with store number %d a new one is not done", i)
				}
				for range 2 {
					w.Start()
					for p := range want {
						if w.At() != p || w.Done() || !w.Unit() {
							t.Fatalf("P20.1: with store number %d there is no unit for page %d", i, p)
						}
					}
					if w.Unit() || !w.Done() || w.At() != want || w.Freed() != 0 || g.Count() != marks || g.Waiting() != min(marks, 1) || s.Made() != 0 {
						t.Fatalf("P20.1: with store number %d, behind all pages, Freed() = %d, %d marks are left; want 0, %d", i, w.Freed(), g.Count(), marks)
					}
				}
			}
		}
	}
}

// TestOtherPages: a sweeper of more pages than its store has goes through those that are none, too; of fewer, through those alone: what is beyond stays, and its marks.
func TestOtherPages(t *testing.T) {
	for _, stored := range []int{1, 2, 3, 5, 63, 64} {
		for _, pages := range []int{1, 2, 3, 4, 5, 6, 62, 63, 64, 65, 200} {
			h := newOver(stored, 1, pages)
			h.quiet = true
			for range stored {
				l := h.fill(t, 0, 15, 2)
				h.black(t, l[1])
			}
			for a := stored * pageWords; a < addresses; a += 9 {
				h.black(t, a)
			}
			h.quit(t, 0)
			marks := h.grey.Count()
			for range 2 {
				h.sweep(t)
				h.look(t, "other pages")
			}
			through := min(pages, stored)
			if h.store.Pages() != through || h.grey.Count() != marks-through || len(h.store.Objects()) != 2*(stored-through) {
				t.Fatalf("P20.1: of %d pages over %d, %d are free, %d marks are left", pages, stored, h.store.Pages(), h.grey.Count())
			}
		}
	}
	// A large object that goes on beyond the last page is freed where it begins.
	h := newOver(6, 1, 2)
	h.fill(t, 0, 31, 1)
	h.fill(t, 0, 100, 1)
	h.fill(t, 0, 31, 1)
	h.sweep(t)
	if h.store.Pages() != 5 || !slices.Equal(h.store.Objects(), []int{5 * pageWords}) {
		t.Fatalf("P20.1: beyond the last page, objects are at %v, %d pages are free", h.store.Objects(), h.store.Pages())
	}
}

// TestWorksOnThose: the very store and grey that it was handed, and no copies, of which another one, and a clone, tell nothing.
func TestWorksOnThose(t *testing.T) {
	s, g := store.New(3, 1), shade.New(2)
	w, other := sweep.New(s, g, 3), sweep.New(s, g, 3)
	w.Start()
	a, _ := s.Slow(0, 31)
	b, _ := s.Slow(0, 31)
	g.Black(a)
	g.Black(b)
	copied := g.Clone()
	if !w.Unit() || g.Is(a) || !g.Is(b) || !copied.Is(a) || s.Fields(a) != 31 {
		t.Fatal("P20.1: what was made behind New does not count, or a clone's marks are cleared")
	}
	// Two sweepers of one store and one grey: what one does the other one finds done; each stands where it stands.
	if other.At() != 3 || !other.Done() || other.Unit() || w.At() != 1 {
		t.Fatal("P20.1: another one started, or goes on")
	}
	other.Start()
	if !other.Unit() || s.Fields(a) != -1 || other.Freed() != 1 || w.Freed() != 0 || w.At() != 1 || s.Kind(0) != 0 {
		t.Fatal("P20.1: another one does not find the mark cleared, or what it frees counts for the first one")
	}
	if !other.Unit() || g.Is(b) || !w.Unit() || s.Fields(b) != -1 || w.Freed() != 1 || other.Freed() != 1 {
		t.Fatal("P20.1: the first one does not find the mark cleared")
	}
	w.Start()
	if other.At() != 2 || other.Freed() != 1 || other.Done() {
		t.Fatal("P20.1: Start of one is another one's, too")
	}
	if !other.Unit() || !other.Done() || w.Done() || w.At() != 0 {
		t.Fatal("P20.1: that another one is done makes the first one done")
	}
}

// TestApart: P3: sweepers of other stores and greys have nothing in common.
func TestApart(t *testing.T) {
	a, b := newHeld(4, 2), newHeld(5, 2)
	r := rule(5)
	for i := range 900 {
		a.step(t, &r)
		b.glance(t, "another one went on")
		if i%3 == 0 {
			b.step(t, &r)
			a.glance(t, "another one went on")
		}
	}
	a.look(t, "behind all")
	b.look(t, "behind all")
}
