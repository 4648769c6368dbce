package store_test

import (
	"slices"
	"testing"

	"scutage/api"
	"scutage/store"
)

// TestExample: the chapter's.
func TestExample(t *testing.T) {
	s := store.New(2, 1)
	if a, e := s.Slow(0, 15); a != 0 || e != api.OK {
		t.Errorf("P13.1: Slow(0, 15) = %d, %d; want 0, 0", a, e)
	}
	if a, ok := s.Fast(0, 15); a != 16 || !ok {
		t.Errorf("P13.1: Fast(0, 15) = %d, %t; want 16, true", a, ok)
	}
	if a, e := s.Slow(0, 15); a != 32 || e != api.OK {
		t.Errorf("P13.1: Slow(0, 15) = %d, %d; want 32, 0", a, e)
	}
	if a, e := s.Slow(0, 16); a != 0 || e != api.ErrFull {
		t.Errorf("P13.1: Slow(0, 16) = %d, %d; want 0, %d", a, e, api.ErrFull)
	}
}

// TestWrittenOut: a store of all kinds, worked out by hand from the chapter.
func TestWrittenOut(t *testing.T) {
	s := store.New(8, 2)
	for _, x := range []struct {
		t, n, a int
		e       api.Errno
	}{{0, 3, 0, 0}, {1, 2, 32, 0}, {0, 3, 4, 0}, {1, 0, 64, 0}, {0, 40, 96, 0}, {1, 15, 160, 0}, {1, 8, 176, 0}, {1, 8, 192, 0},
		{2, 3, 0, api.ErrRange}, {-1, 200, 0, api.ErrRange}, {0, 128, 0, api.ErrRange}, {0, -1, 0, api.ErrRange}, {0, 32, 0, api.ErrFull}, {0, 31, 224, 0}, {0, 7, 0, api.ErrFull}} {
		if a, e := s.Slow(x.t, x.n); a != x.a || e != x.e {
			t.Fatalf("P13.1: Slow(%d, %d) = %d, %d; want %d, %d", x.t, x.n, a, e, x.a, x.e)
		}
	}
	for p, x := range []struct{ kind, owner int }{{2, 0}, {2, 1}, {1, 1}, {5, -1}, {6, -1}, {4, -1}, {4, 1}, {5, -1}, {-1, -1}} {
		if kind, owner := s.Kind(p), s.Owner(p); kind != x.kind || owner != x.owner {
			t.Errorf("P13.2: of page %d: Kind %d, Owner %d; want %d, %d", p, kind, owner, x.kind, x.owner)
		}
	}
	for _, x := range []struct {
		a, fields int
		serial    int64
	}{{0, 3, 0}, {32, 2, 1}, {4, 3, 2}, {64, 0, 3}, {96, 40, 4}, {160, 15, 5}, {176, 8, 6}, {192, 8, 7}, {224, 31, 8}, {1, -1, -1}, {8, -1, -1}, {128, -1, -1}, {208, -1, -1}} {
		if fields, serial := s.Fields(x.a), s.Serial(x.a); fields != x.fields || serial != x.serial {
			t.Errorf("P13.2: of address %d: Fields %d, Serial %d; want %d, %d", x.a, fields, serial, x.fields, x.serial)
		}
	}
	if !s.Free(176) || s.Free(176) || s.Free(97) || !s.Free(96) || s.Pages() != 2 || s.Made() != 9 {
		t.Error("P13.1: Free: just 176 and 96, once each")
	}
	if got, want := s.Objects(), []int{0, 4, 32, 64, 160, 192, 224}; !slices.Equal(got, want) {
		t.Errorf("P13.2: Objects() = %v; want %v", got, want)
	}
	if got, want := s.In(0), []int{0, 4}; !slices.Equal(got, want) {
		t.Errorf("P13.2: In(0) = %v; want %v", got, want)
	}
	if a, e := s.Slow(0, 9); a != 176 || e != api.OK || s.Owner(5) != 0 {
		t.Errorf("P13.1: Slow(0, 9) = %d, %d, of page %d; want 176, 0, the page being nobody's", a, e, s.Owner(5))
	}
	if !s.Free(64) || s.Trim(2) || s.Quit(1) != 1 || s.Kind(2) != 0 || s.Owner(1) != -1 || !s.Free(32) || !s.Trim(1) || s.Trim(1) || s.Pages() != 4 {
		t.Error("P13.2: Quit frees page 2, and Trim page 1")
	}
}

// TestNew: each number of pages and of threads, from below to above what may be, and the far ones: nothing is there, and just so much can be had.
func TestNew(t *testing.T) {
	type size struct{ pages, threads int }
	var l []size
	for pages := -2; pages <= most+2; pages++ {
		for n := -2; n <= threads+2; n++ {
			l = append(l, size{pages, n})
		}
	}
	for _, n := range far() {
		l = append(l, size{n, 2}, size{3, n}, size{n, n}, size{n, -n})
	}
	for _, x := range l {
		pages, count := min(max(x.pages, 0), most), min(max(x.threads, 0), threads)
		h := &held{store: store.New(x.pages, x.threads), plain: newPlain(pages, count)}
		h.check(t, "new")
		h.quiet = true
		for thread := -2; thread <= threads+2; thread++ {
			h.fast(t, thread, 3)
			h.slow(t, thread, 3)
			h.slow(t, thread, 16)
		}
		h.check(t, "each thread was told")
		// All pages that are left are taken, and none more.
		for range most {
			h.slow(t, 0, 31)
		}
		h.check(t, "all of it was taken")
	}
}

// counted are numbers of fields: all from one below the least, up to last, and the far ones.
func counted(last int) []int {
	l := append(far(), -1, greatestObject, greatestObject+1)
	for n := range last + 1 {
		l = append(l, n)
	}
	return l
}

// each runs f for each layout, with each of its threads and one beyond each end; f lays the store, anew when it was changed.
func each(t *testing.T, layouts []layout, f func(l layout, thread int)) {
	t.Helper()
	for _, l := range layouts {
		for thread := -1; thread <= l.threads; thread++ {
			f(l, thread)
		}
	}
}

// TestFast: each number of fields, of each thread, over stores of all kinds: without such a page, with a free cell in it, and with none.
func TestFast(t *testing.T) {
	made, refused := 0, 0
	each(t, few(), func(l layout, thread int) {
		h := l.lay(t)
		for _, n := range counted(greatestSmall + 1) {
			if _, ok := h.fast(t, thread, n); !ok {
				refused++
				continue
			}
			made++
			h = l.lay(t)
		}
	})
	if made < 100 || refused < 1000 {
		t.Errorf("Fast made %d and refused %d: too few", made, refused)
	}
	for _, l := range many() {
		h := l.lay(t)
		h.quiet = true
		for thread := -1; thread <= l.threads; thread++ {
			for _, n := range counted(greatestSmall + 1) {
				h.fast(t, thread, n)
			}
		}
		h.check(t, "each thread was told")
	}
}

// TestFastTillFull: of each class: with each number of taken cells, till there is none; no other page is opened, nor one's that has room.
func TestFastTillFull(t *testing.T) {
	for n := 0; n <= greatestSmall; n++ {
		k := classOf(n)
		for taken := 1; taken <= counts[k]; taken++ {
			h := dirty(t, 4, 2)
			h.fill(t, 1, n, 1)
			h.fill(t, 0, n, taken)
			h.quiet = false
			for i := range counts[k] - taken {
				a, ok := h.fast(t, 0, n)
				if want := pageWords + (taken+i)*sizes[k]; a != want || !ok {
					t.Fatalf("P13.1: %d cells taken, Fast(0, %d) = %d, %t; want %d", taken+i, n, a, ok, want)
				}
				h.scribble(t, a, 2)
			}
			if a, ok := h.fast(t, 0, n); a != 0 || ok {
				t.Fatalf("P13.1: no cell free, Fast(0, %d) = %d, %t; want 0, false", n, a, ok)
			}
			if _, ok := h.fast(t, 1, n); ok != (counts[k] > 1) {
				t.Fatalf("P13.1: Fast(1, %d) = %t: its own page has room", n, ok)
			}
		}
	}
}

// TestFastFirstFreeCell: cells that were freed come back the last one first, with all fields nothing, whatever was written in them, and however many fields they had.
func TestFastFirstFreeCell(t *testing.T) {
	for k := 1; k <= smalls; k++ {
		from, to := sizes[k]/2, sizes[k]-1
		for _, elder := range []int{from, to} {
			for _, n := range []int{from, to} {
				for first := range counts[k] {
					for second := range counts[k] {
						h := dirty(t, 2, 1)
						h.fill(t, 0, elder, counts[k])
						h.free(t, first*sizes[k])
						h.free(t, second*sizes[k])
						h.quiet = false
						if a, ok := h.fast(t, 0, n); a != second*sizes[k] || !ok {
							t.Fatalf("P13.1: freed %d behind %d, Fast(0, %d) = %d, %t", second*sizes[k], first*sizes[k], n, a, ok)
						}
						h.fast(t, 0, n)
						h.fast(t, 0, n)
					}
				}
			}
		}
	}
}

// TestFastAnothersPage: of each thread and class: a page is there, but another thread's, nobody's, or the thread's own of another class.
func TestFastAnothersPage(t *testing.T) {
	for thread := range threads {
		for k := 1; k <= smalls; k++ {
			h := newHeld(6, threads)
			h.slow(t, thread, sizes[k]-1)
			for n := -1; n <= greatestSmall+1; n++ {
				if classOf(n) == k {
					continue
				}
				if a, ok := h.fast(t, thread, n); ok {
					t.Fatalf("P13.1: with a page of class %d, Fast(%d, %d) = %d", k, thread, n, a)
				}
			}
			for beside := -1; beside <= threads; beside++ {
				if beside != thread {
					h.fast(t, beside, sizes[k]-1)
				}
			}
			h.quit(t, thread)
			h.fast(t, thread, sizes[k]-1)
		}
	}
}

// TestSlow: each number of fields, of each thread, over stores of all kinds.
func TestSlow(t *testing.T) {
	made, out, full := 0, 0, 0
	each(t, few(), func(l layout, thread int) {
		h := l.lay(t)
		for _, n := range counted(greatestObject) {
			switch _, e := h.slow(t, thread, n); e {
			case api.OK:
				made++
				h = l.lay(t)
			case api.ErrRange:
				out++
			case api.ErrFull:
				full++
			}
		}
	})
	if made < 1000 || out < 1000 || full < 1000 {
		t.Errorf("Slow made %d, had %d out of range and %d without a page: too few", made, out, full)
	}
}

// TestSlowOfMany: a few numbers of fields, of each thread, over large stores; till they are full.
func TestSlowOfMany(t *testing.T) {
	for _, l := range many() {
		for _, n := range []int{0, 3, 7, 8, 16, 31, 32, 64, 96, 127} {
			l.lay(t).slow(t, l.threads-1, n)
			h := l.lay(t)
			h.quiet = true
			e := api.OK
			for i := 0; e == api.OK; i++ {
				_, e = h.slow(t, i*i%l.threads, n)
				if i%7 == 0 {
					h.checkBrief(t, "on the way")
				}
			}
			h.check(t, "full")
			h.quiet = false
			h.slow(t, 0, n)
		}
		h := l.lay(t)
		h.quiet = true
		for _, n := range counted(0) {
			for _, thread := range append(far(), -1, 0, l.threads) {
				if thread != 0 || n != 0 && n != greatestObject {
					h.slow(t, thread, n)
				}
			}
		}
		h.check(t, "told what can't be")
	}
}

// TestSlowOwnPageFirst: as Fast, if that can be: though a lower page is nobody's with a free cell, and others are free.
func TestSlowOwnPageFirst(t *testing.T) {
	for n := 0; n <= greatestSmall; n++ {
		k := classOf(n)
		for taken := 1; taken < counts[k]; taken++ {
			h := dirty(t, 4, 3)
			h.fill(t, 2, 127, 0)
			h.fill(t, 0, n, 1)
			h.fill(t, 1, n, taken)
			h.quit(t, 0)
			h.quiet = false
			if a, e := h.slow(t, 1, n); a != pageWords+taken*sizes[k] || e != api.OK {
				t.Fatalf("P13.1: %d cells taken, Slow(1, %d) = %d, %d; want its own page's next cell", taken, n, a, e)
			}
		}
	}
}

// paved has pages of the class of n fields: page p has left[p] free cells, and is thread whose[p]'s, or nobody's, if that is -1. Behind them stand one page of thread 8, which filled them all and moved on, and so many more free ones.
func paved(t *testing.T, n int, left []int, whose []int, more int) *held {
	t.Helper()
	k := classOf(n)
	h := dirty(t, len(left)+1+more, threads)
	// The last page is thread 8's then, the others are full and nobody's.
	h.fill(t, 8, n, len(left)*counts[k]+1)
	for p, thread := range whose {
		// The one cell that is freed first leads thread p to this page: all other ones are full.
		if thread >= 0 {
			h.free(t, p*pageWords)
			h.slow(t, thread, n)
		}
	}
	for p, count := range left {
		for i := range count {
			h.free(t, p*pageWords+(counts[k]-1-i)*sizes[k])
		}
	}
	h.check(t, "paved")
	h.quiet = false
	return h
}

// TestSlowLowest: each page the lowest of its class that is nobody's and has a free cell: those below are full, or somebody's, and those above have more.
func TestSlowLowest(t *testing.T) {
	const count = 5
	for _, n := range []int{1, 2, 7, 8} {
		all := counts[classOf(n)]
		for p := range count {
			for _, free := range []int{1, all} {
				for _, thread := range []int{-1, 1} {
					left, whose := make([]int, count), slices.Repeat([]int{-1}, count)
					for i := range p {
						// Full below, or somebody's with room.
						if i%2 == 0 && thread >= 0 {
							whose[i], left[i] = i+1, 1
						}
					}
					left[p] = free
					for i := p + 1; i < count; i++ {
						left[i] = all
					}
					h := paved(t, n, left, whose, 1)
					if a, e := h.slow(t, 0, n); a/pageWords != p || e != api.OK {
						t.Fatalf("P13.1: Slow(0, %d) = %d, %d; want from page %d", n, a, e, p)
					}
					if h.store.Owner(p) != 0 {
						t.Fatalf("P13.1: Owner(%d) = %d; want 0", p, h.store.Owner(p))
					}
				}
			}
		}
	}
}

// TestSlowOtherClass: pages of other classes that are nobody's and have room are no pages of its class.
func TestSlowOtherClass(t *testing.T) {
	for n := 0; n <= greatestSmall; n++ {
		for beside := 0; beside <= greatestSmall; beside++ {
			h := dirty(t, 2, 2)
			h.fill(t, 1, beside, 1)
			h.quit(t, 1)
			h.quiet = false
			want := 0
			if classOf(n) != classOf(beside) {
				want = 1
			}
			if a, e := h.slow(t, 0, n); a/pageWords != want || e != api.OK {
				t.Fatalf("P13.1: beside a page for %d fields, Slow(0, %d) = %d, %d; want from page %d", beside, n, a, e, want)
			}
			h.slow(t, 1, n)
		}
	}
}

// TestSlowElder: the elder page is nobody's then, and goes to who needs one as soon as it has a free cell; only the page of this class is left.
func TestSlowElder(t *testing.T) {
	for n := 0; n <= greatestSmall; n++ {
		k := classOf(n)
		beside := sizes[k%smalls+1] - 1
		h := dirty(t, 6, 2)
		h.fill(t, 0, beside, 1)
		h.fill(t, 0, n, counts[k])
		h.quiet = false
		h.slow(t, 0, n)
		if h.store.Owner(0) != 0 || h.store.Owner(1) != -1 || h.store.Owner(2) != 0 {
			t.Fatalf("P13.1: of class %d, owners are %d, %d, %d; want 0, -1, 0", k, h.store.Owner(0), h.store.Owner(1), h.store.Owner(2))
		}
		h.slow(t, 1, n)
		h.free(t, pageWords)
		h.fast(t, 0, n)
		h.quiet = true
		h.fill(t, 1, n, counts[k]-1)
		h.quiet = false
		if a, e := h.slow(t, 1, n); a != pageWords || e != api.OK {
			t.Fatalf("P13.1: Slow(1, %d) = %d, %d; want the elder page's cell", n, a, e)
		}
		h.free(t, pageWords)
		h.slow(t, 0, n)
	}
}

// TestSlowElderStays: where no page is there, the thread's elder one stays its own.
func TestSlowElderStays(t *testing.T) {
	for n := 0; n <= greatestSmall; n++ {
		k := classOf(n)
		h := dirty(t, 2, 2)
		h.fill(t, 0, n, counts[k])
		h.fill(t, 1, n, 1)
		h.quiet = false
		for range 2 {
			if a, e := h.slow(t, 0, n); a != 0 || e != api.ErrFull {
				t.Fatalf("P13.1: Slow(0, %d) = %d, %d; want 0, %d", n, a, e, api.ErrFull)
			}
		}
		if h.store.Owner(0) != 0 || h.store.Owner(1) != 1 {
			t.Fatalf("P13.1: full: owners are %d, %d; want 0, 1", h.store.Owner(0), h.store.Owner(1))
		}
		// Other threads' and other classes' pages are no way out.
		for other := 0; other <= greatestObject; other++ {
			if classOf(other) != k {
				h.slow(t, 0, other)
			}
		}
		h.free(t, 0)
		h.slow(t, 0, n)
	}
}

// TestSlowCarves: the lowest free page, whatever it was ahead; with all of its cells to be had.
func TestSlowCarves(t *testing.T) {
	for n := 0; n <= greatestSmall; n++ {
		k := classOf(n)
		for p := range 4 {
			h := dirty(t, 4, 1)
			h.fill(t, 0, 31, 4)
			for i := p; i < 4; i += 2 {
				h.free(t, i*pageWords)
			}
			h.quiet = false
			for i := range counts[k] {
				if a, e := h.slow(t, 0, n); a != p*pageWords+i*sizes[k] || e != api.OK {
					t.Fatalf("P13.1: Slow(0, %d) = %d, %d; want cell %d of page %d", n, a, e, i, p)
				}
			}
			h.slow(t, 0, n)
		}
	}
}

// TestSlowLarge: each number of fields, where runs of free pages are too short, just long enough, and longer.
func TestSlowLarge(t *testing.T) {
	for n := greatestSmall + 1; n <= greatestObject; n++ {
		pages := (n + pageWords) / pageWords
		for first := 0; first <= 4; first++ {
			for second := 0; second <= 4; second++ {
				h := dirty(t, first+second+1, 2)
				h.fill(t, 0, 31, first)
				h.fill(t, 1, 15, 1)
				h.fill(t, 0, 31, second)
				for p := range first + second + 1 {
					// The small one stays, between the two runs.
					if p != first {
						h.free(t, p*pageWords)
					}
				}
				h.quiet = n%9 != 0
				want, code := 0, api.OK
				switch {
				case first >= pages:
				case second >= pages:
					want = (first + 1) * pageWords
				default:
					code = api.ErrFull
				}
				if a, e := h.slow(t, 1, n); a != want || e != code {
					t.Fatalf("P13.1: runs of %d and %d free pages, Slow(1, %d) = %d, %d; want %d, %d", first, second, n, a, e, want, code)
				}
				h.slow(t, 0, n)
				h.check(t, "behind Slow")
			}
		}
	}
}

// TestSlowErrors: ErrRange ahead of ErrFull, of a number of fields and of a thread; and nothing changes.
func TestSlowErrors(t *testing.T) {
	for _, pages := range []int{0, 1, 3} {
		for _, count := range []int{0, 1, threads} {
			h := newHeld(pages, count)
			h.quiet = true
			h.fill(t, 0, 31, pages)
			for _, n := range append(far(), -1, 128, 0, 15, 16, 127) {
				for _, thread := range append(far(), -1, count, count+1, 0, count-1) {
					want := api.ErrFull
					if n < 0 || n > greatestObject || thread < 0 || thread >= count {
						want = api.ErrRange
					}
					if a, e := h.slow(t, thread, n); a != 0 || e != want {
						t.Fatalf("P13.1: of %d pages, all taken, and %d threads, Slow(%d, %d) = %d, %d; want 0, %d", pages, count, thread, n, a, e, want)
					}
				}
			}
			h.check(t, "told what can't be")
		}
	}
}

// TestFree: each address of stores of all kinds, and one beyond each end; once, and once more.
func TestFree(t *testing.T) {
	freed := 0
	for _, l := range few() {
		h := l.lay(t)
		for a := -1; a <= l.pages*pageWords; a++ {
			// Of those that are refused one look at the end does: what they change is seen.
			h.quiet = h.plain.object(a) == nil
			if !h.free(t, a) {
				continue
			}
			freed++
			if h.free(t, a) {
				t.Fatalf("P13.1: Free(%d) twice: true", a)
			}
			h = l.lay(t)
		}
		h.check(t, "told what is no object")
	}
	if freed < 150 {
		t.Errorf("only %d were freed", freed)
	}
}

// TestFreeAll: each object of one store, one behind the other, from either end; then all pages can be had that were large objects'.
func TestFreeAll(t *testing.T) {
	for _, l := range slices.Concat(few(), many()) {
		for _, down := range []bool{false, true} {
			h := l.lay(t)
			h.quiet = l.pages > 20
			all := h.plain.objects()
			if down {
				slices.Reverse(all)
			}
			for _, a := range all {
				if !h.free(t, a) || h.free(t, a) {
					t.Fatalf("P13.1: Free(%d): just once", a)
				}
			}
			h.check(t, "all were freed")
			for range l.pages + 1 {
				h.slow(t, 0, 16)
			}
			h.check(t, "large ones anew")
		}
	}
}

// TestFreeFar: numbers that no address is.
func TestFreeFar(t *testing.T) {
	for _, l := range slices.Concat(few(), many()) {
		h := l.lay(t)
		h.quiet = true
		for _, a := range far() {
			h.free(t, a)
		}
		for a := l.pages * pageWords; a <= most*pageWords+pageWords; a++ {
			h.free(t, a)
		}
		h.check(t, "told far beyond")
	}
}

// TestFreeLastFirst: cells that were freed come back the last one first, also where another thread has the page then.
func TestFreeLastFirst(t *testing.T) {
	for n := 0; n <= greatestSmall; n++ {
		k := classOf(n)
		for first := range counts[k] {
			for second := range counts[k] {
				if first == second {
					continue
				}
				h := dirty(t, 3, 2)
				// With one more than a page has thread 0 moves on: had it quit, a page without an object would be free, and its cells in order.
				h.fill(t, 0, n, counts[k]+1)
				h.free(t, first*sizes[k])
				h.free(t, second*sizes[k])
				for _, want := range []int{second, first} {
					if a, e := h.slow(t, 1, n); a != want*sizes[k] || e != api.OK {
						t.Fatalf("P13.1: freed cells %d, %d: Slow(1, %d) = %d, %d; want %d", first, second, n, a, e, want*sizes[k])
					}
				}
				h.check(t, "freed and made anew")
			}
		}
	}
}

// TestTold: stores of all kinds, each page, address and field, and far beyond the ends; nothing changes by asking.
func TestTold(t *testing.T) {
	for _, l := range slices.Concat(few(), many()) {
		h := l.lay(t)
		h.checkFar(t, "laid")
		h.check(t, "asked far beyond")
	}
}

// TestSet: each field of each object, and one beyond each end: just that one is written.
func TestSet(t *testing.T) {
	for _, l := range few() {
		h := l.lay(t)
		for _, a := range h.plain.objects() {
			n := len(h.plain.object(a).fields)
			for i := -1; i <= n; i++ {
				if got, want := h.set(t, a, i, unlike(a, i, 5)), i >= 0 && i < n; got != want {
					t.Fatalf("P13.2: of %d fields, Set(%d, %d) = %t", n, a, i, got)
				}
			}
			h.set(t, a, n-1, api.Value{})
		}
	}
	for _, l := range many() {
		h := l.lay(t)
		h.quiet = true
		for _, a := range h.plain.objects() {
			h.scribble(t, a, 6)
			h.set(t, a, -1, unlike(a, 0, 7))
			h.set(t, a, len(h.plain.object(a).fields), unlike(a, 1, 7))
			h.checkBrief(t, "behind Set")
		}
		h.check(t, "all were set")
	}
}

// TestSetOfEachLength: objects of each number of fields: all of their fields, and none of the neighbours'.
func TestSetOfEachLength(t *testing.T) {
	for n := 0; n <= greatestObject; n++ {
		h := dirty(t, 9, 1)
		h.fill(t, 0, n, 3)
		h.quiet = false
		a := h.plain.objects()[1]
		for i := -1; i <= n+1; i += 1 + n/20 {
			h.set(t, a, i, unlike(a, i, 8))
		}
		h.set(t, a, n-1, unlike(a, n, 9))
		h.set(t, a, n, unlike(a, n, 9))
	}
}

// TestSetNone: where nothing begins: within objects, in free cells and pages, of freed objects, and far beyond: refused, and nothing changes.
func TestSetNone(t *testing.T) {
	for _, l := range slices.Concat(few(), many()) {
		h := l.lay(t)
		h.quiet = true
		for a := -1; a <= l.pages*pageWords; a++ {
			if h.plain.object(a) == nil {
				for _, i := range []int{-1, 0, 1, 40} {
					h.set(t, a, i, unlike(a, i, 10))
				}
			}
		}
		h.check(t, "told where nothing begins")
		for _, n := range far() {
			h.set(t, n, 0, unlike(1, 0, 11))
			h.set(t, n, n, unlike(1, 0, 11))
			for _, a := range h.plain.objects() {
				h.set(t, a, n, unlike(a, 0, 11))
				h.set(t, n, a-n-1, unlike(a, 0, 11))
			}
		}
		h.check(t, "told far beyond")
		for _, a := range h.plain.objects() {
			n := len(h.plain.object(a).fields)
			h.free(t, a)
			for i := range n {
				h.set(t, a, i, unlike(a, i, 12))
				h.checkField(t, a, i, "freed")
			}
		}
		h.check(t, "told of freed ones")
	}
}

// TestSetValues: each value that may be comes back; each that may not be is refused, and what stood there stays.
func TestSetValues(t *testing.T) {
	for _, n := range []int{1, 2, 7, 15, 31, 127} {
		h := dirty(t, 6, 1)
		h.fill(t, 0, n, 2)
		h.quiet = false
		for _, a := range h.plain.objects() {
			for i, v := range mayBe() {
				if !h.set(t, a, i%n, v) {
					t.Fatalf("P13.2: Set of %v: false; it may be", v)
				}
			}
			for i, v := range mayNotBe() {
				if h.set(t, a, i%n, v) {
					t.Fatalf("P13.2: Set of %v: true; it may not be", v)
				}
				h.set(t, a, n, v)
			}
		}
	}
}

// TestValuesTellNothing: fields whose words are such as a store writes itself do not look like objects, nor touch free cells, when all is freed and made anew.
func TestValuesTellNothing(t *testing.T) {
	for n := 1; n <= 40; n++ {
		for _, v := range mayBe() {
			h := newHeld(4, 1)
			h.quiet = true
			for a, e := h.slow(t, 0, n); e == api.OK; a, e = h.slow(t, 0, n) {
				for i := range n {
					h.set(t, a, i, v)
				}
			}
			if n%8 == 7 {
				h.check(t, "all fields alike")
			} else {
				h.checkBrief(t, "all fields alike")
			}
			for i, a := range h.plain.objects() {
				if i%3 != 1 {
					h.free(t, a)
				}
			}
			for range 9 {
				h.fast(t, 0, n)
			}
			h.check(t, "freed and made anew")
		}
	}
}

// TestQuit: each thread, and one beyond each end, of stores of all kinds; once more: it has none; then all can take what was left.
func TestQuit(t *testing.T) {
	freed, kept := 0, 0
	each(t, slices.Concat(few(), many()), func(l layout, thread int) {
		h := l.lay(t)
		had := 0
		for _, owner := range h.plain.owner {
			if owner == thread && thread >= 0 {
				had++
			}
		}
		n := h.quit(t, thread)
		freed += n
		kept += had - n
		if n := h.quit(t, thread); n != 0 {
			t.Fatalf("P13.2: Quit(%d) twice: %d; want 0", thread, n)
		}
		for _, fields := range []int{0, 3, 7, 15} {
			h.fast(t, thread, fields)
			h.slow(t, l.threads-1, fields)
		}
	})
	if freed < 20 || kept < 50 {
		t.Errorf("Quit freed %d pages and kept %d: too few", freed, kept)
	}
}

// TestQuitOfEach: with pages of each set of classes, of which each set has no object; another thread's stay, with an object and without.
func TestQuitOfEach(t *testing.T) {
	for has := range 1 << smalls {
		for empty := range 1 << smalls {
			if empty&^has != 0 {
				continue
			}
			h := dirty(t, 10, 3)
			want := 0
			for k := 1; k <= smalls; k++ {
				for thread := range 3 {
					if thread == 1 && has>>(k-1)&1 == 0 {
						continue
					}
					a := h.fill(t, thread, sizes[k]-1, 1)
					if len(a) > 0 && (thread == 0 && k%2 == 0 || thread == 1 && empty>>(k-1)&1 == 1) {
						h.free(t, a[0])
						want += thread
					}
				}
			}
			h.quiet = false
			if got := h.quit(t, 1); got != want {
				t.Fatalf("P13.2: Quit(1) = %d; want %d", got, want)
			}
			h.quit(t, 1)
			h.quit(t, 0)
			h.quit(t, 2)
		}
	}
}

// TestQuitFar: numbers that no thread has.
func TestQuitFar(t *testing.T) {
	for _, l := range slices.Concat(few(), many()) {
		h := l.lay(t)
		h.quiet = true
		for _, n := range far() {
			h.quit(t, n)
		}
		for n := l.threads; n < 70; n++ {
			h.quit(t, n)
		}
		h.check(t, "far threads quit")
	}
}

// TestTrim: each page of stores of all kinds, and one beyond each end: as they were laid, without every second object, and without any; once more: it is free already.
func TestTrim(t *testing.T) {
	trimmed, refused := 0, 0
	for _, l := range slices.Concat(few(), many()) {
		for stay := range 3 {
			h := l.lay(t)
			h.quiet = true
			for i, a := range h.plain.objects() {
				if stay == 1 && i%2 == 0 || stay == 2 {
					h.free(t, a)
				}
			}
			h.quiet = l.pages > 20
			for p := -1; p <= l.pages; p++ {
				if !h.trim(t, p) {
					refused++
					continue
				}
				trimmed++
				if h.trim(t, p) {
					t.Fatalf("P13.2: Trim(%d) twice: true", p)
				}
			}
			h.check(t, "each page was trimmed")
		}
	}
	if trimmed < 50 || refused < 500 {
		t.Errorf("Trim freed %d pages and refused %d: too few", trimmed, refused)
	}
}

// TestTrimFar: numbers that no page has.
func TestTrimFar(t *testing.T) {
	for _, l := range slices.Concat(few(), many()) {
		h := l.lay(t)
		h.quiet = true
		for _, n := range far() {
			h.trim(t, n)
		}
		for n := l.pages; n <= most*pageWords; n++ {
			h.trim(t, n)
		}
		h.check(t, "far pages were trimmed")
	}
}

// TestTrimOfEach: a page of each class: somebody's or nobody's, with each number of objects down to none.
func TestTrimOfEach(t *testing.T) {
	for n := 0; n <= greatestSmall; n++ {
		k := classOf(n)
		for last := range counts[k] {
			for thread := range 2 {
				h := dirty(t, 3, 2)
				h.fill(t, 1, 20, 1)
				// The second page, all of whose cells are taken, is thread 0's, or nobody's, as it quits.
				h.fill(t, 0, n, counts[k])
				if thread == 1 {
					h.quit(t, 0)
				}
				h.quiet = false
				for i := range counts[k] {
					if h.trim(t, 1) {
						t.Fatalf("P13.2: with %d objects, Trim(1) = true", counts[k]-i)
					}
					h.free(t, pageWords+(last+1+i)%counts[k]*sizes[k])
				}
				if got := h.trim(t, 1); got != (thread == 1) {
					t.Fatalf("P13.2: without an object, Trim(1) = %t; its owner is %d", got, h.store.Owner(1))
				}
				// Large objects' pages are none to trim, and a trimmed page is all objects'.
				h.trim(t, 0)
				h.slow(t, 1, sizes[k%smalls+1]-1)
				h.slow(t, 1, 31)
				h.slow(t, 1, 31)
			}
		}
	}
}

// TestMade: made objects alone count, in order, whatever was freed: far beyond what a first word's fields, an octet, and two octets hold.
func TestMade(t *testing.T) {
	h := newHeld(2, 1)
	h.quiet = true
	const count = 1<<17 + 3
	for i := range count {
		a, e := h.slow(t, 0, i%greatestSmall)
		if got := h.store.Serial(a); e != api.OK || got != int64(i) || h.store.Made() != int64(i+1) {
			t.Fatalf("P13.2: object %d has serial %d, error %d; Made() = %d", i, got, e, h.store.Made())
		}
		h.fast(t, 0, 16)
		h.slow(t, 0, 100)
		h.free(t, a)
		if classOf((i+1)%greatestSmall) != classOf(i%greatestSmall) {
			h.quit(t, 0)
		}
	}
	h.check(t, "many were made")
}

// scribbled writes on all of l, behind its end too.
func scribbled(l []int) {
	l = l[:cap(l)]
	for i := range l {
		l[i] = 77
	}
}

// TestAnswersApart: P2: what Objects and In told can be written on; neither the store nor what was told else changes.
func TestAnswersApart(t *testing.T) {
	for _, l := range slices.Concat(few(), many()) {
		h := l.lay(t)
		one, two := h.store.Objects(), h.store.Objects()
		want := h.plain.objects()
		scribbled(one)
		h.check(t, "what Objects told was written on")
		for p := range l.pages {
			in, again := h.store.In(p), h.store.In(p)
			scribbled(in)
			if !slices.Equal(again, h.plain.in(p)) {
				t.Fatalf("P2: an answer of In(%d) is %v; want %v", p, again, h.plain.in(p))
			}
		}
		h.check(t, "what In told was written on")
		h.quiet = true
		for _, a := range want {
			h.free(t, a)
		}
		if !slices.Equal(two, want) {
			t.Fatalf("P2: an answer of Objects is %v; want %v", two, want)
		}
	}
}

// TestNotMade: no store, and one that nobody made: nothing is told, and nothing can be had; Slow answers ErrState, whatever it is asked for.
func TestNotMade(t *testing.T) {
	for _, s := range []*store.Store{nil, {}, new(store.Store)} {
		h := &held{store: s, plain: newPlain(0, 0)}
		h.plain.state = api.ErrState
		numbers := append(far(), -1, 0, 1, 8, 9, 15, 16, 127, 128)
		for range 2 {
			h.check(t, "not made")
			h.checkFar(t, "not made")
			h.quiet = true
			for _, n := range numbers {
				for _, thread := range numbers {
					h.slow(t, thread, n)
					h.fast(t, thread, n)
					h.set(t, thread, n, api.Value{})
				}
				h.quit(t, n)
				h.trim(t, n)
				h.free(t, n)
				h.set(t, 0, n, api.Value{Kind: n, N: 1})
			}
			h.quiet = false
		}
	}
}

// TestScripts: long scripts of all calls, step by step, with all that is told behind each one.
func TestScripts(t *testing.T) {
	for _, pages := range []int{0, 1, 2, 3, 5, 9} {
		for _, count := range []int{0, 1, 2, 4, threads} {
			for way := range ways {
				s := &script{held: newHeld(pages, count), rule: rule(1000*pages + 10*count + way), way: way}
				for range 300 {
					s.step(t)
				}
			}
		}
	}
}

// TestScriptsOfMany: longer ones, of great stores, with all that is told behind each few steps.
func TestScriptsOfMany(t *testing.T) {
	for _, pages := range []int{17, 40, most} {
		for _, count := range []int{1, 3, 8, threads} {
			for way := range ways {
				s := &script{held: newHeld(pages, count), rule: rule(1000*pages + 10*count + way), way: way}
				s.quiet = true
				for i := range 3000 {
					s.step(t)
					if i%50 == 0 {
						s.check(t, "on the way")
					}
				}
				s.check(t, "at the end")
			}
		}
	}
}

// TestScriptsAreMixed: the scripts' steps are granted and refused in all ways.
func TestScriptsAreMixed(t *testing.T) {
	for way := range ways {
		s := &script{held: newHeld(6, 3), rule: rule(77 + way), way: way}
		s.quiet = true
		made, freed, pages, most := 0, 0, 0, 0
		for range 5000 {
			objects, free, count := len(s.plain.objects()), s.plain.pages(), s.plain.made
			s.step(t)
			switch now := len(s.plain.objects()); {
			case s.plain.made > count:
				made++
			case now < objects:
				freed++
			case s.plain.pages() > free:
				pages++
			}
			if s.plain.pages() == 0 {
				most++
			}
		}
		if made < 300 || freed < 300 || pages < 3 || most < 50 {
			t.Errorf("script %d made %d, freed %d, trimmed or left %d pages, and was full %d times: too few", way, made, freed, pages, most)
		}
	}
}

// TestNothingElse: P3: two stores that are told alike answer alike, whatever a third one is told between.
func TestNothingElse(t *testing.T) {
	for _, pages := range []int{2, 7, 20} {
		var l []*script
		for i := range 3 {
			l = append(l, &script{held: newHeld(pages, 4), rule: rule(5 + i/2), way: i / 2})
			l[i].quiet = true
		}
		for i := range 1000 {
			l[0].step(t)
			l[2].step(t)
			l[1].step(t)
			if !slices.Equal(l[0].store.Objects(), l[1].store.Objects()) {
				t.Fatalf("P3: two stores that were told alike have %v and %v", l[0].store.Objects(), l[1].store.Objects())
			}
			if i%100 == 99 {
				for _, s := range l {
					s.check(t, "told by turns")
				}
			}
		}
	}
}
