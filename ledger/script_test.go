package ledger_test

import (
	"slices"
	"testing"

	"scutage/ledger"
)

// rule gives numbers that look like none in particular, the same ones each time.
type rule uint64

func (r *rule) below(n int) int {
	*r = *r*6364136223846793005 + 1442695040888963407
	return int(uint64(*r)>>33) % n
}

// step does something to a thread.
func step(t *testing.T, h *held, r *rule) {
	t.Helper()
	thread := r.below(len(h.plain.all)+2) - 1
	switch r.below(12) {
	case 0, 1, 2:
		h.run(t, thread, r.below(4))
	case 3:
		h.run(t, thread, r.below(67)-1)
	case 4, 5, 6:
		h.work(t, thread, 1)
	case 7, 8:
		h.work(t, thread, r.below(h.plain.most+3)-1)
	case 9:
		h.work(t, thread, h.plain.most)
	case 10:
		h.admit(t, thread, r.below(h.plain.most+3)-1)
	default:
		h.work(t, thread, r.below(h.plain.window))
	}
}

// TestScripts: long scripts for all windows and all most, with all that is told behind each step.
func TestScripts(t *testing.T) {
	for window := 1; window <= mostWindow; window++ {
		for most := range window + 1 {
			r := rule(window*100 + most)
			h := newHeld(1+r.below(3), window, most)
			for range 60 {
				step(t, h, &r)
			}
			h.asks(t, "a script")
			h.windows(t)
		}
	}
}

// TestLongScripts: longer ones, for a few shapes, with clones among the steps.
func TestLongScripts(t *testing.T) {
	shapes := [][3]int{{1, 1, 0}, {1, 1, 1}, {2, 2, 1}, {8, 3, 2}, {2, 4, 2}, {3, 5, 4}, {1, 8, 3}, {8, 16, 8}, {2, 31, 30}, {2, 63, 21}, {1, 64, 1}, {1, 64, 32}, {8, 64, 63}, {1, 64, 64}}
	for i, shape := range shapes {
		r := rule(i + 1)
		h := newHeld(shape[0], shape[1], shape[2])
		for n := range 1500 {
			step(t, h, &r)
			if n%100 == 99 {
				h.asks(t, "a script")
				c := h.clone(t)
				for range 20 {
					step(t, c, &r)
				}
				h.look(t, "its clone went on")
				if r.below(2) == 0 {
					h = c
				}
			}
		}
		h.windows(t)
	}
}

// TestShortScripts: each script of five calls, in small windows.
func TestShortScripts(t *testing.T) {
	const calls = 7
	for window := 1; window <= 4; window++ {
		for most := range window + 1 {
			for script := range calls * calls * calls * calls * calls {
				h := newHeld(1, window, most)
				h.quiet = true
				for rest, i := script, 0; i < 5; rest, i = rest/calls, i+1 {
					switch call := rest % calls; call {
					case 0, 1, 2:
						h.run(t, 0, call*call)
					default:
						h.work(t, 0, call-3)
					}
				}
				h.look(t, "a short script")
				h.asks(t, "a short script")
				h.windows(t)
			}
		}
	}
}

// TestGreedy: whoever takes all that is admitted has no window with more, and in each full one just most where they come as soon as they may.
func TestGreedy(t *testing.T) {
	for window := 1; window <= mostWindow; window++ {
		for most := range window + 1 {
			l := ledger.New(1, window, most)
			var all []bool
			for range 3*window + 7 {
				work := l.Work(0, 1)
				if !work {
					l.Run(0, 1)
				}
				all = append(all, work)
			}
			if got := worst(all, window); got != most {
				t.Fatalf("P21.2: of %d, %d, in a window are %d of the collector's letters", window, most, got)
			}
			if got := l.Last(0); !slices.Equal(got, all[len(all)-window:]) || works(got) != most {
				t.Fatalf("P21.1: of %d, %d, last are %s", window, most, tell(got))
			}
		}
	}
}

// TestNothingElse: the same calls are answered the same, whatever others are told between them.
func TestNothingElse(t *testing.T) {
	script := func(between bool) []int {
		l := ledger.New(4, 9, 4)
		other := ledger.New(8, 64, 64)
		r, s := rule(7), rule(8)
		var told []int
		for range 3000 {
			thread, n := r.below(4), r.below(7)
			ok := r.below(2) == 0 && l.Run(thread, n) || l.Work(thread, n%5)
			own, work := l.Total(thread)
			told = append(told, l.Count(thread), int(own), int(work), len(l.Last(thread)))
			if ok {
				told = append(told, -1)
			}
			if between {
				other.Work(s.below(8), s.below(65))
				other.Run(s.below(8), s.below(65))
				other = other.Clone()
				l.Admit(s.below(4), s.below(5))
				l.Last(s.below(4))
				l.Clone().Run(s.below(4), s.below(65))
			}
		}
		return told
	}
	if !slices.Equal(script(false), script(true)) {
		t.Error("P3: other calls between change what is answered")
	}
}
