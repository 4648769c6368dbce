package ledger_test

import (
	"slices"
	"testing"

	"scutage/ledger"
)

// TestExample: the chapter's: with 4 and 2: Work 2, Run 1, Work 1 is false; Run 1, Work 1 is true.
func TestExample(t *testing.T) {
	l := ledger.New(1, 4, 2)
	if !l.Work(0, 2) || !l.Run(0, 1) || l.Work(0, 1) || !l.Run(0, 1) || !l.Work(0, 1) {
		t.Error("P21.1: with 4 and 2, Work 2, Run 1, Work 1, Run 1, Work 1 is not true, true, false, true, true")
	}
}

// TestWrittenOut: a ledger worked out by hand from the chapter.
func TestWrittenOut(t *testing.T) {
	l := ledger.New(2, 3, 2)
	steps := []struct {
		call       string
		thread, n  int
		want       bool
		last       string
		other      string
		own, works int64
	}{
		{"run", 0, 0, true, "", "", 0, 0},
		{"work", 0, 0, true, "", "", 0, 0},
		{"work", 0, 1, true, "c", "", 0, 1},
		{"work", 0, 2, false, "c", "", 0, 1},
		{"work", 0, 3, false, "c", "", 0, 1},
		{"admit", 0, 1, true, "c", "", 0, 1},
		{"work", 0, 1, true, "cc", "", 0, 2},
		{"work", 0, 1, false, "cc", "", 0, 2},
		{"work", 0, 0, true, "cc", "", 0, 2},
		{"run", 0, 1, true, "cco", "", 1, 2},
		{"admit", 0, 2, true, "cco", "", 1, 2},
		{"work", 0, 1, true, "coc", "", 1, 3},
		{"work", 0, 1, true, "occ", "", 1, 4},
		{"work", 0, 1, false, "occ", "", 1, 4},
		{"work", 0, 2, false, "occ", "", 1, 4},
		{"run", 0, 2, true, "coo", "", 3, 4},
		{"work", 0, 2, true, "occ", "", 3, 6},
		{"run", 0, 65, false, "occ", "", 3, 6},
		{"run", 0, -1, false, "occ", "", 3, 6},
		{"run", 1, 64, true, "occ", "ooo", 3, 6},
		{"work", 1, 2, true, "occ", "occ", 3, 6},
		{"run", 0, 64, true, "ooo", "occ", 67, 6},
		{"run", 2, 1, false, "ooo", "occ", 67, 6},
		{"work", -1, 0, false, "ooo", "occ", 67, 6},
		{"run", 1, 1, true, "ooo", "cco", 67, 6},
	}
	for i, s := range steps {
		call := map[string]func(int, int) bool{"run": l.Run, "work": l.Work, "admit": l.Admit}[s.call]
		if got := call(s.thread, s.n); got != s.want {
			t.Fatalf("P21.1: step %d: %s(%d, %d) = %t; want %t", i, s.call, s.thread, s.n, got, s.want)
		}
		own, works := l.Total(0)
		if got := [2]string{tell(l.Last(0)), tell(l.Last(1))}; got != [2]string{s.last, s.other} || own != s.own || works != s.works {
			t.Fatalf("P21.1: step %d: last are %v, total %d, %d; want %s, %s, %d, %d", i, got, own, works, s.last, s.other, s.own, s.works)
		}
	}
	if own, works := l.Total(1); own != 65 || works != 2 || l.Count(0) != 0 || l.Count(1) != 2 {
		t.Errorf("P21.1: at last, Total(1) = %d, %d, Count = %d, %d; want 65, 2, 0, 2", own, works, l.Count(0), l.Count(1))
	}
}

// probe asks of a new ledger what its numbers are: how many threads there are, how many letters are told back, and how many of the collector's can come.
func probe(l *ledger.Ledger) (int, int, int) {
	threads := 0
	for _, thread := range append(near(), strangers()...) {
		if l.Run(thread, 0) {
			threads++
		}
	}
	most := 0
	c := l.Clone()
	for c.Work(0, 1) {
		most++
		if most > mostWindow {
			break
		}
	}
	c.Run(0, mostRun)
	c.Run(0, mostRun)
	return threads, len(c.Last(0)), most
}

// ends are numbers at, beyond and far beyond the ends of what may be.
func ends(hi int) []int {
	return append(far(), -2, -1, 0, 1, 2, hi-1, hi, hi+1, hi+2)
}

// TestNewThreads: each number of threads, beyond each end, and far out.
func TestNewThreads(t *testing.T) {
	numbers := append(far(), near()...)
	for _, n := range append(numbers, -5, 10, 63, 64, 100) {
		h := newHeld(n, 4, 2)
		if h.ledger == nil {
			t.Fatalf("P21.1: New(%d, 4, 2) = nil", n)
		}
		h.look(t, "new")
		for _, thread := range append(near(), strangers()...) {
			want := thread >= 0 && thread < nearest(n, 0, mostThreads)
			if got := h.run(t, thread, 1); got != want {
				t.Fatalf("P21.1: of New(%d, 4, 2), Run(%d, 1) = %t; want %t", n, thread, got, want)
			}
			if got := h.work(t, thread, 1); got != want {
				t.Fatalf("P21.1: of New(%d, 4, 2), Work(%d, 1) = %t; want %t", n, thread, got, want)
			}
		}
	}
}

// turns are window for window, with none of the collector's letters and with as many as may be there.
func (h *held) turns(t *testing.T) {
	t.Helper()
	m := h.plain
	for range 3 {
		h.run(t, 0, 1)
		h.work(t, 0, m.most+1)
		h.work(t, 0, m.most)
		h.work(t, 0, 1)
		h.run(t, 0, m.window-m.most)
		h.work(t, 0, m.most)
	}
	h.run(t, 0, 64)
	h.run(t, 0, 64)
}

// TestNewWindow: each window, beyond each end, and far out; with most as great as can be.
func TestNewWindow(t *testing.T) {
	numbers := ends(mostWindow)
	for n := -3; n <= mostWindow+3; n++ {
		numbers = append(numbers, n)
	}
	for _, n := range numbers {
		want := nearest(n, 1, mostWindow)
		for _, most := range []int{0, 1, 3, mostWindow, greatest, n} {
			if threads, window, got := probe(ledger.New(1, n, most)); threads != 1 || window != want || most == greatest && got <= mostWindow {
				t.Fatalf("P21.1: New(1, %d, %d) has %d threads, a window of %d, most %d; want 1, %d", n, most, threads, window, got, want)
			}
			newHeld(1, n, most).turns(t)
		}
	}
}

// TestNewMost: each most, beyond each end, and far out, for each window: it is held against the window that the ledger has.
func TestNewMost(t *testing.T) {
	for _, n := range append(far(), -1, 0, 1, 2, 3, 7, 20, 62, 63, 64, 65) {
		window := nearest(n, 1, mostWindow)
		for _, most := range append(ends(window), ends(mostWindow)...) {
			want := nearest(most, 0, window)
			_, _, got := probe(ledger.New(1, n, most))
			// Where most is as great as the window, there is no end to them.
			if want < window && got != want || want == window && got <= mostWindow {
				t.Fatalf("P21.1: of New(1, %d, %d), %d letters of the collector come first; want %d", n, most, got, want)
			}
			h := newHeld(1, n, most)
			if !h.admit(t, 0, want) || h.admit(t, 0, want+1) {
				t.Fatalf("P21.1: New(1, %d, %d) doesn't admit %d, or admits one more", n, most, want)
			}
			h.turns(t)
		}
	}
}

// TestNewEach: each window with each most that may be, and one beyond each end.
func TestNewEach(t *testing.T) {
	for window := 1; window <= mostWindow; window++ {
		for most := -1; most <= window+1; most++ {
			newHeld(1, window, most).turns(t)
		}
	}
}

// TestNewFar: all three far out at once.
func TestNewFar(t *testing.T) {
	for _, threads := range []int{least, -1, 0, 8, 9, 1<<32 + 1, greatest} {
		for _, window := range []int{least, -1, 0, 64, 65, 1<<32 + 1, greatest} {
			for _, most := range []int{least, -1, 0, 64, 65, 1<<32 + 1, greatest} {
				h := newHeld(threads, window, most)
				h.look(t, "new")
				h.asks(t, "new")
				h.turns(t)
			}
		}
	}
}

// TestRun: each number of letters about the edges and far out, behind none, few and many.
func TestRun(t *testing.T) {
	for _, h := range many(t) {
		for _, thread := range []int{0, len(h.plain.all) - 1} {
			for _, n := range numbers() {
				c := h.clone(t)
				want := h.plain.has(thread) && n >= 0 && n <= 64
				if got := c.run(t, thread, n); got != want {
					t.Fatalf("P21.1: Run(%d, %d) = %t; want %t", thread, n, got, want)
				}
				c.asks(t, "behind Run")
			}
		}
	}
}

// TestRunEdges: 0, 1, 63 and 64 come, -1, 65 and far ones don't, and nothing changes then.
func TestRunEdges(t *testing.T) {
	h := newHeld(2, 64, 64)
	want := int64(0)
	for _, n := range []int{0, 1, 63, 64} {
		if !h.run(t, 1, n) {
			t.Fatalf("P21.1: Run(1, %d) = false", n)
		}
		want += int64(n)
		h.work(t, 1, 3)
	}
	letters := h.ledger.Last(1)
	for _, n := range append(far(), -1, 65) {
		if h.run(t, 1, n) {
			t.Fatalf("P21.1: Run(1, %d) = true", n)
		}
		own, work := h.ledger.Total(1)
		if own != want || work != 12 || !slices.Equal(h.ledger.Last(1), letters) {
			t.Fatalf("P21.1: Run(1, %d) is refused, but Total(1) = %d, %d, or other letters are told; want %d, 12", n, own, work, want)
		}
	}
}

// TestAdmit: each number about the edges and far out, with fewer letters than a window, as many, and more; it changes nothing, and says what Work does.
func TestAdmit(t *testing.T) {
	for _, shape := range [][2]int{{1, 0}, {1, 1}, {2, 1}, {3, 2}, {4, 2}, {5, 5}, {8, 3}, {64, 0}, {64, 13}, {64, 64}, {63, 62}} {
		for _, letters := range []int{0, 1, shape[0] - 1, shape[0], shape[0] + 1, 2*shape[0] + 3} {
			h := newHeld(2, shape[0], shape[1])
			h.quiet = true
			for i := 0; len(h.plain.all[1]) < letters; i++ {
				if i%3 == 2 || !h.work(t, 1, 1) {
					h.run(t, 1, 1)
				}
			}
			h.quiet = false
			for _, n := range append(far(), -1, 0, 1, 2, 3, shape[1]-1, shape[1], shape[1]+1, shape[1]+2, shape[0], shape[0]+1, 63, 64, 65) {
				said := h.admit(t, 1, n)
				if n == 0 && !said || n > shape[1] && said || n < 0 && said {
					t.Fatalf("P21.1: of %d, %d, behind %d letters, Admit(1, %d) = %t", shape[0], shape[1], letters, n, said)
				}
				if h.admit(t, 1, n) != said {
					t.Fatalf("P21.1: of %d, %d, Admit(1, %d) is another one when asked once more", shape[0], shape[1], n)
				}
				if did := h.clone(t).work(t, 1, n); did != said {
					t.Fatalf("P21.1: of %d, %d, behind %d letters, Admit(1, %d) = %t, but Work is %t", shape[0], shape[1], letters, n, said, did)
				}
			}
		}
	}
}

// TestWorkFew: with fewer letters than a window all of them count, none is thought ahead of them.
func TestWorkFew(t *testing.T) {
	for letters := range 10 {
		h := newHeld(1, 10, 4)
		h.run(t, 0, letters)
		for n := range 5 {
			if !h.clone(t).work(t, 0, n) {
				t.Fatalf("P21.1: of 10, 4, behind %d of its own, Work(0, %d) = false", letters, n)
			}
		}
		h.play(t, 0, "ccc")
		if h.work(t, 0, 2) || !h.work(t, 0, 1) || h.work(t, 0, 1) || h.ledger.Count(0) != 4 {
			t.Fatalf("P21.1: of 10, 4, behind %d of its own and 3, not just one more comes", letters)
		}
	}
}

// TestWorkFallsOut: a letter of the collector counts until a window of others has come behind it, and no longer.
func TestWorkFallsOut(t *testing.T) {
	for window := 2; window <= mostWindow; window++ {
		h := newHeld(1, window, 1)
		h.quiet = true
		h.work(t, 0, 1)
		for i := 1; i < window; i++ {
			if h.work(t, 0, 1) || h.ledger.Count(0) != 1 {
				t.Fatalf("P21.1: of %d, 1, with %d behind it, one more comes, or Count is %d", window, i-1, h.ledger.Count(0))
			}
			h.run(t, 0, 1)
		}
		// The one that comes makes the eldest fall out.
		if l := h.ledger.Last(0); len(l) != window || !l[0] || slices.Contains(l[1:], true) {
			t.Fatalf("P21.1: of %d, 1, last are %s", window, tell(l))
		}
		c := h.clone(t)
		if !h.work(t, 0, 1) || h.ledger.Count(0) != 1 {
			t.Fatalf("P21.1: of %d, 1, with a window, one doesn't come as the eldest falls out", window)
		}
		c.run(t, 0, 1)
		if l := c.ledger.Last(0); len(l) != window || slices.Contains(l, true) || c.ledger.Count(0) != 0 {
			t.Fatalf("P21.1: of %d, 1, behind a window of its own, last are %s", window, tell(l))
		}
		h.look(t, "fallen out")
		c.look(t, "fallen out")
	}
}

// TestWorkMost: as long as most, from anywhere: it comes whenever what stays is its own alone.
func TestWorkMost(t *testing.T) {
	for window := 1; window <= 12; window++ {
		for most := range window + 1 {
			for since := range 2 * window {
				h := newHeld(1, window, most)
				h.run(t, 0, 2)
				h.work(t, 0, most)
				h.run(t, 0, since)
				want := most == 0 || since >= window-most
				if window == most {
					want = true
				}
				if got := h.work(t, 0, most); got != want {
					t.Fatalf("P21.1: of %d, %d, with %d between, Work(0, %d) = %t; want %t", window, most, since, most, got, want)
				}
			}
		}
	}
}

// TestRefusedChangesNothing: what is refused leaves all that is told as it was.
func TestRefusedChangesNothing(t *testing.T) {
	for _, h := range many(t) {
		c := h.clone(t)
		c.quiet = true
		for thread := range c.plain.all {
			for _, n := range append(numbers(), c.plain.most+1) {
				if !c.plain.admit(thread, n) {
					if c.work(t, thread, n) {
						t.Fatalf("P21.1: Work(%d, %d) = true", thread, n)
					}
					c.lookAt(t, thread, "Work was refused")
				}
				if n < 0 || n > mostRun {
					c.run(t, thread, n)
					c.lookAt(t, thread, "Run was refused")
				}
			}
		}
		c.look(t, "all were refused")
		c.asks(t, "all were refused")
		for thread, l := range h.plain.all {
			if !slices.Equal(l, c.plain.all[thread]) {
				t.Fatal("a refused call came")
			}
		}
	}
}

// TestOneByOne: letters fall out one by one, the eldest first.
func TestOneByOne(t *testing.T) {
	for _, window := range []int{1, 2, 3, 5, 8, 63, 64} {
		for _, most := range []int{0, 1, window / 2, window - 1, window} {
			h := newHeld(1, window, most)
			for i := range 3*window + 5 {
				if i%5 == 1 || i%5 == 2 || i%5 == 4 || !h.work(t, 0, 1) {
					h.run(t, 0, 1)
				}
				want := h.plain.all[0]
				want = want[max(0, len(want)-window):]
				if got := h.ledger.Last(0); !slices.Equal(got, want) || len(got) != min(i+1, window) {
					t.Fatalf("P21.1: of %d, %d, behind %d letters, last are %s; want %s", window, most, i+1, tell(got), tell(want))
				}
			}
			h.windows(t)
		}
	}
}

// TestLongRun: one long run is as many short ones.
func TestLongRun(t *testing.T) {
	for _, window := range []int{1, 2, 7, 63, 64} {
		for _, most := range []int{0, 1, window} {
			for n := range mostRun + 1 {
				h := newHeld(2, window, most)
				h.quiet = true
				for thread := range 2 {
					h.run(t, thread, 3)
					h.work(t, thread, most)
				}
				h.run(t, 0, n)
				for range n {
					h.run(t, 1, 1)
				}
				h.look(t, "run")
				if a, b := h.ledger.Last(0), h.ledger.Last(1); !slices.Equal(a, b) || h.ledger.Count(0) != h.ledger.Count(1) {
					t.Fatalf("P21.1: of %d, %d, behind a run of %d are told %s, behind as many short ones %s", window, most, n, tell(a), tell(b))
				}
			}
		}
	}
}

// TestLongWork: one long piece of work is as many short ones: it comes just if they do.
func TestLongWork(t *testing.T) {
	for window := 1; window <= 9; window++ {
		for most := range window + 1 {
			for seed := range 40 {
				h := newHeld(2, window, most)
				h.quiet = true
				for i := range seed {
					work := (seed*i+i/3)%3 == 0
					for thread := range 2 {
						if !work || !h.work(t, thread, 1) {
							h.run(t, thread, 1)
						}
					}
				}
				for n := range most + 1 {
					one, many := h.clone(t), h.clone(t)
					did := one.work(t, 0, n)
					came := 0
					for range n {
						if many.work(t, 1, 1) {
							came++
						}
					}
					if did != (came == n) {
						t.Fatalf("P21.1: of %d, %d, behind %s Work(0, %d) = %t, but %d of as many short ones came", window, most, tell(h.plain.last(0)), n, did, came)
					}
				}
			}
		}
	}
}

// TestMostNone: no letter of the collector ever comes, but none of them may.
func TestMostNone(t *testing.T) {
	for _, window := range []int{1, 2, 3, 63, 64} {
		h := newHeld(1, window, 0)
		for _, n := range []int{0, 1, 2, 63, 64, 64, 64} {
			if h.work(t, 0, 1) || h.admit(t, 0, 1) || !h.work(t, 0, 0) || !h.admit(t, 0, 0) || h.ledger.Count(0) != 0 {
				t.Fatalf("P21.1: of %d, 0, a letter of the collector comes, or none may not", window)
			}
			h.run(t, 0, n)
		}
		if own, work := h.ledger.Total(0); own != 258 || work != 0 {
			t.Fatalf("P21.1: of %d, 0, Total(0) = %d, %d; want 258, 0", window, own, work)
		}
	}
}

// TestMostAll: where most is as great as the window, as many as most always come.
func TestMostAll(t *testing.T) {
	for _, window := range []int{1, 2, 3, 31, 63, 64} {
		h := newHeld(1, window, window)
		for i := range 3 * window {
			if !h.work(t, 0, i%(window+1)) || h.work(t, 0, window+1) {
				t.Fatalf("P21.1: of %d, %d, Work(0, %d) = false, or one more than most comes", window, window, i%(window+1))
			}
			if i%4 == 3 {
				h.run(t, 0, i%65)
			}
		}
		h.work(t, 0, window)
		if h.ledger.Count(0) != window {
			t.Fatalf("P21.1: of %d, %d, behind Work of most, Count(0) = %d", window, window, h.ledger.Count(0))
		}
	}
}

// TestTotal: of both kinds, when Last has long forgotten them.
func TestTotal(t *testing.T) {
	for _, shape := range [][2]int{{1, 1}, {2, 1}, {5, 3}, {64, 40}} {
		l := ledger.New(3, shape[0], shape[1])
		own, work := int64(0), int64(0)
		for i := range 5000 {
			n := i % 65
			if !l.Run(1, n) || !l.Run(1, 64) {
				t.Fatal("P21.1: Run is refused")
			}
			own += int64(n) + 64
			if !l.Work(1, shape[1]) {
				t.Fatal("P21.1: behind a run of a window, Work of most is refused")
			}
			work += int64(shape[1])
			if a, b := l.Total(1); a != own || b != work {
				t.Fatalf("P21.1: of %v, in round %d, Total(1) = %d, %d; want %d, %d", shape, i, a, b, own, work)
			}
		}
		for _, thread := range []int{0, 2, 3, -1} {
			if a, b := l.Total(thread); a != 0 || b != 0 {
				t.Fatalf("P21.1: Total(%d) = %d, %d; want 0, 0", thread, a, b)
			}
		}
	}
}

// TestThreadsApart: no thread is told anything of another one's letters.
func TestThreadsApart(t *testing.T) {
	for thread := range mostThreads {
		for other := range mostThreads {
			if other == thread {
				continue
			}
			h := newHeld(mostThreads, 6, 3)
			h.play(t, other, "oco")
			h.work(t, thread, 3)
			h.run(t, thread, 64)
			h.work(t, thread, 3)
			if got := tell(h.ledger.Last(other)); got != "oco" || h.ledger.Count(other) != 1 || h.ledger.Admit(thread, 1) || !h.ledger.Admit(other, 2) || h.ledger.Admit(other, 3) {
				t.Fatalf("P21.1: thread %d's letters change thread %d's: %s", thread, other, got)
			}
		}
	}
}

// TestNoThread: of each call, for threads below 0, as many as there are, and far ones; nothing changes.
func TestNoThread(t *testing.T) {
	for _, h := range many(t) {
		for _, thread := range append(strangers(), len(h.plain.all), len(h.plain.all)+1) {
			l := h.ledger
			for _, n := range []int{least, -1, 0, 1, 2, 64, 65, greatest} {
				if l.Run(thread, n) || l.Admit(thread, n) || l.Work(thread, n) {
					t.Fatalf("P21.1: of no thread %d, Run, Admit or Work of %d is true", thread, n)
				}
			}
			own, work := l.Total(thread)
			if l.Count(thread) != 0 || len(l.Last(thread)) != 0 || own != 0 || work != 0 {
				t.Fatalf("P21.1: of no thread %d something is told", thread)
			}
		}
		h.look(t, "no thread was asked")
	}
}

// TestNilOrNotMade: of nil, or one that New did not make.
func TestNilOrNotMade(t *testing.T) {
	for name, l := range map[string]*ledger.Ledger{"nil": nil, "not made": {}} {
		for _, thread := range append(near(), strangers()...) {
			for _, n := range numbers() {
				if l.Run(thread, n) || l.Admit(thread, n) || l.Work(thread, n) {
					t.Fatalf("P21.1: %s: Run, Admit or Work of %d, %d is true", name, thread, n)
				}
			}
			own, work := l.Total(thread)
			if l.Count(thread) != 0 || len(l.Last(thread)) != 0 || own != 0 || work != 0 {
				t.Fatalf("P21.1: %s: something is told of thread %d", name, thread)
			}
			if l.Clone() != nil {
				t.Fatalf("P21.1: %s: Clone() is not nil", name)
			}
		}
	}
}

// TestNoThreads: a ledger of none is such as New made: it can be cloned.
func TestNoThreads(t *testing.T) {
	for _, n := range []int{0, -1, least} {
		for _, window := range []int{least, 0, 1, 64} {
			c := ledger.New(n, window, 0).Clone()
			if c == nil || c.Run(0, 0) || c.Admit(0, 0) || c.Work(0, 0) || c.Clone() == nil {
				t.Errorf("P21.1: of New(%d, %d, 0), the clone is none, or has threads", n, window)
			}
		}
	}
}

// TestLastIsOnesOwn: what is told is changed, longer and cleared there, and nothing changes here; nor do two answers share anything.
func TestLastIsOnesOwn(t *testing.T) {
	for _, h := range many(t) {
		for thread := range h.plain.all {
			a, b := h.ledger.Last(thread), h.ledger.Last(thread)
			kept := slices.Clone(b)
			for i := range a {
				a[i] = !a[i]
			}
			for range mostWindow {
				a = append(a, true)
			}
			whole := a[:cap(a)]
			for i := range whole {
				whole[i] = true
			}
			if !slices.Equal(b, kept) {
				t.Fatalf("P2: two answers of Last(%d) share memory", thread)
			}
			h.look(t, "what was told was changed")
		}
		// What is told stays as it was, whatever comes.
		for thread := range h.plain.all {
			told := h.ledger.Last(thread)
			kept := slices.Clone(told)
			hidden := slices.Clone(told[:cap(told)])
			h.run(t, thread, 2)
			h.work(t, thread, 1)
			h.run(t, thread, 64)
			h.work(t, thread, h.plain.most)
			if !slices.Equal(told, kept) || !slices.Equal(told[:cap(told)], hidden) {
				t.Fatalf("P2: what Last(%d) told changes with what comes", thread)
			}
		}
	}
}

// TestClone: changed on either side, nothing changes on the other one.
func TestClone(t *testing.T) {
	change := func(h *held, thread int, how int) {
		switch how {
		case 0:
			h.run(t, thread, 1)
		case 1:
			h.run(t, thread, 64)
		case 2:
			h.work(t, thread, 1)
		case 3:
			h.run(t, thread, h.plain.window)
			h.work(t, thread, h.plain.most)
		}
	}
	for _, h := range many(t) {
		for thread := range h.plain.all {
			for how := range 4 {
				a := h.clone(t)
				b := a.clone(t)
				change(a, thread, how)
				b.look(t, "the one it was cloned from was changed")
				b.asks(t, "the one it was cloned from was changed")
				c := b.clone(t)
				change(c, thread, how)
				b.look(t, "its clone was changed")
				b.asks(t, "its clone was changed")
				change(b, thread, 3-how)
				a.look(t, "its clone was changed")
				c.look(t, "the one it was cloned from was changed")
				b.windows(t)
			}
		}
		h.look(t, "its clones were changed")
		h.asks(t, "its clones were changed")
	}
}

// TestManyClones: of one, each goes its own way.
func TestManyClones(t *testing.T) {
	h := newHeld(3, 5, 2)
	h.play(t, 0, "ocooc")
	h.play(t, 1, "c")
	var l []*held
	for range 6 {
		l = append(l, h.clone(t))
	}
	for i, c := range l {
		for thread := range 3 {
			c.run(t, thread, i)
			c.work(t, thread, 1)
			c.work(t, thread, 1)
		}
	}
	for _, c := range append(l, h) {
		c.look(t, "the others went on")
		c.asks(t, "the others went on")
	}
}
