package cache_test

import (
	"slices"
	"testing"

	"scutage/cache"
)

// TestExample: the chapter's: what one thread has another one can't set.
func TestExample(t *testing.T) {
	c := cache.New(2)
	if !c.Set(0, 1, 5) || c.Set(1, 1, 5) || c.Set(1, 2, 5) {
		t.Error("P12.1: Set: what one thread has, another one can't set")
	}
	if c.Page(0, 1) != 5 || c.Page(1, 1) != -1 || c.Page(1, 2) != -1 {
		t.Error("P12.1: Page: just the first thread has it")
	}
}

// TestWrittenOut: a cache worked out by hand from the chapter.
func TestWrittenOut(t *testing.T) {
	c := cache.New(3)
	for _, x := range []struct {
		t, k, p int
		want    bool
	}{{0, 1, 63, true}, {0, 4, 0, true}, {2, 2, 9, true}, {0, 2, 9, false}, {2, 3, 9, false}, {2, 2, 9, false}, {0, 2, 7, true},
		{3, 1, 1, false}, {-1, 1, 1, false}, {1, 0, 1, false}, {1, 5, 1, false}, {1, 1, -1, false}, {1, 1, 64, false},
		{0, 4, 8, true}, {1, 4, 0, true}} {
		if got := c.Set(x.t, x.k, x.p); got != x.want {
			t.Errorf("P12.1: Set(%d, %d, %d) = %t; want %t", x.t, x.k, x.p, got, x.want)
		}
	}
	for _, x := range []struct{ t, k, want int }{{0, 1, 63}, {0, 2, 7}, {0, 3, -1}, {0, 4, 8}, {0, 0, -1}, {0, 5, -1}, {1, 1, -1}, {1, 4, 0}, {2, 2, 9}, {2, 3, -1}, {3, 1, -1}, {-1, 1, -1}} {
		if got := c.Page(x.t, x.k); got != x.want {
			t.Errorf("P12.1: Page(%d, %d) = %d; want %d", x.t, x.k, got, x.want)
		}
	}
	for _, x := range []struct{ p, t, k int }{{63, 0, 1}, {7, 0, 2}, {8, 0, 4}, {0, 1, 4}, {9, 2, 2}, {1, -1, 0}, {-1, -1, 0}, {64, -1, 0}} {
		if thread, class := c.Owner(x.p); thread != x.t || class != x.k {
			t.Errorf("P12.1: Owner(%d) = %d, %d; want %d, %d", x.p, thread, class, x.t, x.k)
		}
	}
	if got, want := c.All(), []int{0, 7, 8, 9, 63}; !slices.Equal(got, want) {
		t.Errorf("P12.1: All() = %v; want %v", got, want)
	}
	if got, want := c.Drop(0), []int{7, 8, 63}; !slices.Equal(got, want) {
		t.Errorf("P12.1: Drop(0) = %v; want %v", got, want)
	}
	if got, want := c.All(), []int{0, 9}; !slices.Equal(got, want) {
		t.Errorf("P12.1: All() = %v; want %v: behind Drop", got, want)
	}
}

// TestNew: each number of threads, and the far ones: no page, each thread can set one, the next number can't.
func TestNew(t *testing.T) {
	l := far()
	for n := -70; n <= 70; n++ {
		l = append(l, n)
	}
	for _, n := range l {
		count := min(max(n, 0), threads)
		h := &held{cache: cache.New(n), plain: newPlain(count)}
		h.check(t, "new")
		for thread := -2; thread <= threads+2; thread++ {
			if got, want := h.set(t, thread, 1+n&3, 30+thread), thread >= 0 && thread < count; got != want {
				t.Fatalf("P12.1: of New(%d), Set of thread %d: %t; want %t", n, thread, got, want)
			}
		}
		h.quiet = true
		for _, thread := range far() {
			h.set(t, thread, 1, 20)
		}
		h.check(t, "far threads were told")
	}
}

// TestTold: caches of all kinds, each thread, class and page, and far beyond the ends; nothing changes by asking.
func TestTold(t *testing.T) {
	for _, h := range many(t) {
		h.check(t, "laid")
		h.checkFar(t, "laid")
		h.check(t, "asked far beyond")
	}
}

// TestSetEach: each thread, class and page, and one beyond each end, of a cache with no pages.
func TestSetEach(t *testing.T) {
	for _, n := range []int{0, 1, 2, threads} {
		h := newHeld(n)
		for thread := -1; thread <= n; thread++ {
			for class := -1; class <= smalls+1; class++ {
				for p := -1; p <= pages; p++ {
					h.set(t, thread, class, p)
					h.drop(t, thread)
				}
			}
		}
	}
}

// TestSetWrong: each of the three wrong alone, two of them, and all at once: refused, and nothing changes.
func TestSetWrong(t *testing.T) {
	for _, how := range []int{empty, some, rising} {
		for _, n := range []int{1, 2, threads} {
			h := laid(t, n, how)
			h.quiet = true
			// The last two of each are right.
			wrongThreads := append(far(), -1, -2, n, n+1, 0, n-1)
			wrongClasses := append(far(), -1, -2, 0, 5, 6, 1, smalls)
			wrongPages := append(far(), -1, -2, 64, 65, slices.Index(h.plain.list, nobody), pages-1)
			for i, thread := range wrongThreads {
				for j, class := range wrongClasses {
					for l, p := range wrongPages {
						if i >= len(wrongThreads)-2 && j >= len(wrongClasses)-2 && l >= len(wrongPages)-2 {
							continue
						}
						if h.set(t, thread, class, p) {
							t.Fatalf("P12.1: Set(%d, %d, %d) = true; want false: there is no such", thread, class, p)
						}
					}
				}
				h.check(t, "told what can't be")
			}
		}
	}
}

// TestSetInPlace: the elder page is nobody's then: another thread, and the same one for another class, can set it.
func TestSetInPlace(t *testing.T) {
	for thread := range 2 {
		for class := 1; class <= smalls; class++ {
			for other := range 2 {
				for next := 1; next <= smalls; next++ {
					h := newHeld(2)
					h.set(t, thread, class, 5)
					h.set(t, thread, class, 6)
					h.set(t, other, next, 5)
					// The elder one back in its own place, if nobody took it.
					h.set(t, thread, class, 5)
					h.set(t, thread, class, 6)
				}
			}
		}
	}
}

// TestSetInPlaceOfEach: each page in the place of each other one.
func TestSetInPlaceOfEach(t *testing.T) {
	for elder := range pages {
		for p := range pages {
			h := newHeld(threads)
			h.quiet = elder%13 != 0
			h.set(t, 8, 4, elder)
			h.set(t, 8, 4, p)
			h.set(t, 0, 1, elder)
			h.check(t, "in the place of another one")
		}
	}
}

// TestSetSomebodys: another thread's, the same thread's for another class, and the same thread's for the same class: refused, and nothing changes.
func TestSetSomebodys(t *testing.T) {
	for _, how := range []int{one, rising, falling, some, again} {
		for _, n := range []int{1, 2, 5, threads} {
			h := laid(t, n, how)
			h.quiet = true
			for _, p := range h.plain.all() {
				for thread := range n {
					for class := 1; class <= smalls; class++ {
						if h.set(t, thread, class, p) {
							t.Fatalf("P12.1: Set(%d, %d, %d) = true; want false: it is somebody's", thread, class, p)
						}
					}
				}
				h.check(t, "told what is somebody's")
			}
		}
	}
}

// TestSetOver: each thread, class and page over caches of all kinds.
func TestSetOver(t *testing.T) {
	for _, how := range []int{one, rising, falling, some, again} {
		for _, n := range []int{1, 3, threads} {
			for thread := range n {
				for class := 1; class <= smalls; class++ {
					h := laid(t, n, how)
					h.quiet = true
					for p := range pages {
						h.set(t, thread, class, p)
					}
					h.check(t, "one page behind the other")
				}
			}
		}
	}
}

// TestOwner: each page: of each thread and class, and nobody's behind it.
func TestOwner(t *testing.T) {
	for p := range pages {
		h := newHeld(threads)
		for i := range threads * smalls {
			h.set(t, i/smalls, 1+i%smalls, p)
			h.checkOwner(t, p, "set")
			h.set(t, i/smalls, 1+i%smalls, (p+1)%pages)
			h.checkOwner(t, p, "in its place stands another one")
			h.drop(t, i/smalls)
		}
	}
}

// orders are all orders of the numbers from 0 to n - 1.
func orders(n int) [][]int {
	if n == 0 {
		return [][]int{nil}
	}
	var l [][]int
	for _, order := range orders(n - 1) {
		for at := range n {
			l = append(l, slices.Insert(slices.Clone(order), at, n-1))
		}
	}
	return l
}

// TestDropRises: up to one page for each class, set in each order of classes and of pages; another thread's stay.
func TestDropRises(t *testing.T) {
	apart := []int{40, 3, 63, 0}
	for n := 0; n <= smalls; n++ {
		for _, order := range orders(n) {
			for _, classes := range orders(n) {
				h := newHeld(3)
				h.quiet = true
				h.set(t, 0, 1, 1)
				h.set(t, 2, 4, 62)
				for i, class := range classes {
					h.set(t, 1, 1+class, apart[order[i]])
				}
				h.quiet = false
				if got := h.drop(t, 1); len(got) != n || !slices.IsSorted(got) {
					t.Fatalf("P12.1: Drop(1) = %v; want %d pages, rising", got, n)
				}
				h.drop(t, 1)
				for _, i := range order {
					h.set(t, 1, 1+i, apart[i])
				}
			}
		}
	}
}

// TestDropEach: each thread of caches of all kinds, and one beyond each end: it has none then, the others' stay, and what it had can be set by all.
func TestDropEach(t *testing.T) {
	for n := 0; n <= threads; n++ {
		for how := range ways {
			for thread := -1; thread <= n; thread++ {
				h := laid(t, n, how)
				l := slices.Clone(h.drop(t, thread))
				h.drop(t, thread)
				for i, p := range l {
					h.set(t, (thread+i)%n, 1+i, p)
				}
			}
		}
	}
}

// TestDropFar: numbers that no thread has: nothing, and nothing changes.
func TestDropFar(t *testing.T) {
	for _, h := range many(t) {
		h.quiet = true
		for _, thread := range far() {
			h.drop(t, thread)
		}
		for thread := h.plain.threads; thread < 40; thread++ {
			h.drop(t, thread)
		}
		h.check(t, "far threads were dropped")
	}
}

// TestDropAll: all threads, one behind the other, from each one on, till nothing is anybody's.
func TestDropAll(t *testing.T) {
	for n := 1; n <= threads; n++ {
		for first := range n {
			h := laid(t, n, falling)
			for i := range n {
				h.drop(t, (first+i)%n)
			}
			if l := h.cache.All(); len(l) != 0 {
				t.Fatalf("P12.1: All() = %v; want nothing: all were dropped", l)
			}
		}
	}
}

// TestAll: with no page, one, and as many as can be, one more at a time.
func TestAll(t *testing.T) {
	for n := 0; n <= threads; n++ {
		for _, step := range []int{1, 5, 27, 63} {
			h := newHeld(n)
			for i := range n * smalls {
				h.set(t, i%n, 1+i/n, i*step%pages)
				if l := h.cache.All(); len(l) != i+1 || !slices.IsSorted(l) {
					t.Fatalf("P12.1: All() = %v; want %d pages, rising", l, i+1)
				}
			}
		}
	}
}

// scribble writes on all of l, behind its end too.
func scribble(l []int) {
	l = l[:cap(l)]
	for i := range l {
		l[i] = 77
	}
}

// TestAnswersApart: P2: what All and Drop told can be written on; neither the cache nor what was told else changes.
func TestAnswersApart(t *testing.T) {
	for _, h := range many(t) {
		all, again := h.cache.All(), h.cache.All()
		want := slices.Clone(again)
		scribble(all)
		h.check(t, "what All told was written on")
		for thread := range h.plain.threads {
			l := h.drop(t, thread)
			was := h.cache.Clone().Drop((thread + 1) % h.plain.threads)
			next := slices.Clone(was)
			scribble(l)
			h.check(t, "what Drop told was written on")
			if !slices.Equal(was, next) {
				t.Fatalf("P2: two answers of Drop share memory: %v; want %v", was, next)
			}
		}
		if !slices.Equal(again, want) {
			t.Fatalf("P2: an answer of All changed: %v; want %v", again, want)
		}
	}
}

// TestCloneApart: a clone, its clone and the cache go on by themselves.
func TestCloneApart(t *testing.T) {
	for _, h := range many(t) {
		c := h.clone(t)
		d := c.clone(t)
		c.check(t, "cloned")
		for thread := range h.plain.threads {
			h.set(t, thread, 1+thread%smalls, pages/2+thread)
			c.check(t, "the cache went on")
			h.drop(t, (thread+1)%h.plain.threads)
			c.check(t, "the cache went on")
		}
		h.check(t, "behind all")
		for thread := -1; thread <= threads; thread++ {
			c.set(t, thread, 2, 50-max(thread, 0))
			c.drop(t, thread-1)
			h.check(t, "the clone went on")
			d.check(t, "the clone went on")
		}
		scribble(c.cache.All())
		for thread := range h.plain.threads {
			scribble(d.drop(t, thread))
		}
		h.check(t, "the clone's clone went on")
		c.check(t, "the clone's clone went on")
	}
}

// TestCloneOfNone: of a cache of no threads, and of one with no pages: made all the same.
func TestCloneOfNone(t *testing.T) {
	for _, n := range []int{least, -1, 0} {
		h := &held{cache: cache.New(n), plain: newPlain(0)}
		c := h.clone(t).clone(t)
		c.set(t, 0, 1, 0)
		c.drop(t, 0)
		h.check(t, "a clone of none was told")
	}
	for n := 1; n <= threads; n++ {
		c := newHeld(n).clone(t)
		for thread := -1; thread <= n; thread++ {
			c.set(t, thread, 1, thread+1)
		}
	}
}

// TestCloneGoesOnByTurns: long scripts of two that were one.
func TestCloneGoesOnByTurns(t *testing.T) {
	for n := 0; n <= threads; n++ {
		h := newHeld(n)
		r := rule(n)
		for range 100 {
			h.step(t, &r)
		}
		c := h.clone(t)
		for range 200 {
			h.step(t, &r)
			c.check(t, "the cache went on")
			c.step(t, &r)
			h.check(t, "the clone went on")
		}
	}
}

// TestNotMade: no cache, and one that nobody made: nothing is told, and nothing can be set.
func TestNotMade(t *testing.T) {
	for _, c := range []*cache.Cache{nil, {}, new(cache.Cache), (*cache.Cache)(nil).Clone(), new(cache.Cache).Clone()} {
		h := &held{cache: c, plain: newPlain(0)}
		for range 2 {
			h.checkFar(t, "not made")
			for thread := -1; thread <= threads; thread++ {
				h.drop(t, thread)
				for class := -1; class <= smalls+1; class++ {
					h.set(t, thread, class, 0)
				}
			}
			h.quiet = true
			for _, n := range far() {
				h.drop(t, n)
				h.set(t, n, n, n)
				h.set(t, n, 1, 0)
				h.set(t, 0, n, 0)
				h.set(t, 0, 1, n)
			}
			h.quiet = false
			if d := c.Clone(); d != nil {
				t.Fatalf("P12.1: not made: Clone() = %v; want nil", d)
			}
		}
	}
}

// rule makes numbers one behind the other, always the same.
type rule uint64

func (r *rule) below(n int) int {
	*r = *r*6364136223846793005 + 1442695040888963407
	return int(uint64(*r)>>33) % n
}

// step does one thing, now and then one that can't be, and answers what was told.
func (h *held) step(t *testing.T, r *rule) []int {
	t.Helper()
	n := h.plain.threads
	if r.below(10) == 0 {
		return h.drop(t, r.below(n+2)-1)
	}
	thread, class, p := r.below(n+1), 1+r.below(smalls), r.below(pages)
	switch r.below(12) {
	case 0:
		thread = -1
	case 1:
		class = smalls + 1 - class%2*5
	case 2:
		p = pages - p%2*(pages+1)
	}
	if h.set(t, thread, class, p) {
		return []int{p}
	}
	return nil
}

// TestScripts: long scripts of Set and Drop, step by step, with all that is told behind each one.
func TestScripts(t *testing.T) {
	for n := 0; n <= threads; n++ {
		for seed := range 3 {
			h := newHeld(n)
			r := rule(97*n + seed)
			set, refused, dropped := 0, 0, 0
			for range 1000 {
				was := len(h.plain.all())
				l := h.step(t, &r)
				switch now := len(h.plain.all()); {
				case now < was:
					dropped += len(l)
				case len(l) > 0:
					set++
				default:
					refused++
				}
			}
			if n > 0 && (set < 100 || refused < 100 || dropped < 30) {
				t.Errorf("the script of %d threads set %d, refused %d and dropped %d: too few", n, set, refused, dropped)
			}
		}
	}
}

// run is all that a script tells, one behind the other.
func run(t *testing.T, n int, seed int) []int {
	t.Helper()
	h := newHeld(n)
	h.quiet = true
	r := rule(seed)
	var told []int
	for range 300 {
		told = append(told, h.step(t, &r)...)
		told = append(told, h.cache.All()...)
		for p := range pages {
			thread, class := h.cache.Owner(p)
			told = append(told, thread, class)
		}
	}
	return told
}

// TestNothingElse: P3: the same script answers the same each time: a map's order shows nowhere.
func TestNothingElse(t *testing.T) {
	for n := 0; n <= threads; n++ {
		first := run(t, n, n)
		for range 10 {
			run(t, threads-n, n+1)
			if !slices.Equal(run(t, n, n), first) {
				t.Fatalf("P3: a script of %d threads told otherwise when it was run again", n)
			}
		}
	}
}
