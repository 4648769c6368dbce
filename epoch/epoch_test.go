package epoch_test

import (
	"math/bits"
	"slices"
	"testing"

	"scutage/epoch"
)

// TestExample: the chapter's: attach 0 and 1, raise, confirm 0: 1 is behind.
func TestExample(t *testing.T) {
	r := epoch.New(2)
	if !r.Attach(0) || !r.Attach(1) || r.Raise() != 1 || !r.Confirm(0) {
		t.Error("P15.1: Attach(0), Attach(1), Raise() and Confirm(0) are not true, true, 1, true")
	}
	if got, want := r.Behind(), []int{1}; !slices.Equal(got, want) {
		t.Errorf("P15.1: Behind() = %v; want %v", got, want)
	}
}

// TestWrittenOut: a registry worked out by hand from the chapter.
func TestWrittenOut(t *testing.T) {
	r := epoch.New(4)
	tell := func(when string, now int, all []int, behind []int, lowest int, of [4]int) {
		t.Helper()
		if r.Epoch() != now || !slices.Equal(r.All(), all) || !slices.Equal(r.Behind(), behind) || r.Agreed() != (len(behind) == 0) || r.Least() != lowest {
			t.Errorf("P15.1: %s: Epoch() = %d, All() = %v, Behind() = %v, Agreed() = %t, Least() = %d; want %d, %v, %v, %t, %d",
				when, r.Epoch(), r.All(), r.Behind(), r.Agreed(), r.Least(), now, all, behind, len(behind) == 0, lowest)
		}
		for thread, want := range of {
			if got := r.Of(thread); got != want || r.Live(thread) != (want >= 0) {
				t.Errorf("P15.1: %s: Of(%d) = %d, Live(%d) = %t; want %d, %t", when, thread, got, thread, r.Live(thread), want, want >= 0)
			}
		}
	}
	want := func(what string, got bool, want bool) {
		t.Helper()
		if got != want {
			t.Errorf("P15.1: %s = %t; want %t", what, got, want)
		}
	}
	rise := func(want int) {
		t.Helper()
		if got := r.Raise(); got != want {
			t.Errorf("P15.1: Raise() = %d; want %d", got, want)
		}
	}
	tell("new", 0, nil, nil, 0, [4]int{-1, -1, -1, -1})
	rise(1)
	tell("raised", 1, nil, nil, 1, [4]int{-1, -1, -1, -1})
	want("Attach(3)", r.Attach(3), true)
	want("Attach(1)", r.Attach(1), true)
	want("Attach(3)", r.Attach(3), false)
	want("Attach(4)", r.Attach(4), false)
	want("Confirm(3)", r.Confirm(3), false)
	tell("two have come", 1, []int{1, 3}, nil, 1, [4]int{-1, 1, -1, 1})
	rise(2)
	want("Confirm(3)", r.Confirm(3), true)
	want("Attach(0)", r.Attach(0), true)
	tell("one has confirmed, one has come", 2, []int{0, 1, 3}, []int{1}, 1, [4]int{2, 1, -1, 2})
	rise(3)
	tell("all are behind", 3, []int{0, 1, 3}, []int{0, 1, 3}, 1, [4]int{2, 1, -1, 2})
	// It is live: it has not confirmed, though it would have if it came.
	want("Attach(1)", r.Attach(1), false)
	tell("who is live can't come", 3, []int{0, 1, 3}, []int{0, 1, 3}, 1, [4]int{2, 1, -1, 2})
	want("Detach(1)", r.Detach(1), true)
	want("Detach(1)", r.Detach(1), false)
	want("Confirm(1)", r.Confirm(1), false)
	tell("the last one is gone", 3, []int{0, 3}, []int{0, 3}, 2, [4]int{2, -1, -1, 2})
	want("Confirm(0)", r.Confirm(0), true)
	want("Confirm(0)", r.Confirm(0), false)
	want("Attach(1)", r.Attach(1), true)
	tell("it is back", 3, []int{0, 1, 3}, []int{3}, 2, [4]int{3, 3, -1, 2})
	want("Detach(3)", r.Detach(3), true)
	tell("who was behind is gone", 3, []int{0, 1}, nil, 3, [4]int{3, 3, -1, -1})
}

// nearest is the number of threads that may be and is nearest to n.
func nearest(n int) int {
	return max(0, min(n, most))
}

// TestNew: each number of threads, beyond each end, and far out; none is live, and the epoch is 0.
func TestNew(t *testing.T) {
	for _, n := range append(append(near(), -5, -100, 100), far()...) {
		h := &held{registry: epoch.New(n), plain: newPlain(nearest(n))}
		if h.registry == nil {
			t.Fatalf("P15.1: New(%d) = nil", n)
		}
		h.check(t, "new")
		h.checkFar(t, "new")
		h.clone(t).check(t, "a clone of a new one")
		for _, thread := range near() {
			if got, want := h.attach(t, thread), thread >= 0 && thread < nearest(n); got != want {
				t.Fatalf("P15.1: of New(%d), Attach(%d) = %t; want %t", n, thread, got, want)
			}
		}
		if got := len(h.registry.All()); got != nearest(n) {
			t.Fatalf("P15.1: of New(%d), %d threads can be live; want %d", n, got, nearest(n))
		}
		h.raise(t)
	}
}

// TestNoThreads: a registry of none is one that New made: it is raised and cloned as any other one.
func TestNoThreads(t *testing.T) {
	for _, n := range []int{0, -1, least} {
		r := epoch.New(n)
		c := r.Clone()
		if r.Raise() != 1 || r.Raise() != 2 || r.Epoch() != 2 || r.Least() != 2 || !r.Agreed() {
			t.Errorf("P15.1: of New(%d), behind Raise twice: Epoch() = %d, Least() = %d, Agreed() = %t; want 2, 2, true", n, r.Epoch(), r.Least(), r.Agreed())
		}
		if c == nil || c.Epoch() != 0 || c.Raise() != 1 {
			t.Errorf("P15.1: of New(%d), the clone is none, or went on with it", n)
		}
	}
}

// TestAttach: each thread, once and once more, behind Detach, and beyond each end, at epoch 0 and behind some Raise.
func TestAttach(t *testing.T) {
	for n := range most + 1 {
		for raises := range 4 {
			h := newHeld(n)
			h.raises(t, raises)
			for _, thread := range append(near(), far()...) {
				there := thread >= 0 && thread < n
				if h.attach(t, thread) != there || h.attach(t, thread) {
					t.Fatalf("P15.1: of %d threads, Attach(%d), once and once more, is not %t and false", n, thread, there)
				}
				if there && h.registry.Of(thread) != raises {
					t.Fatalf("P15.1: who came at %d has confirmed %d", raises, h.registry.Of(thread))
				}
			}
			// Live ones that are behind don't come, and stay behind.
			h.raise(t)
			for _, thread := range append(near(), far()...) {
				if h.attach(t, thread) {
					t.Fatalf("P15.1: of %d threads, all live, Attach(%d) = true", n, thread)
				}
			}
			for thread := range n {
				h.detach(t, thread)
				h.raise(t)
				if !h.attach(t, thread) || h.attach(t, thread) || h.registry.Of(thread) != raises+2+thread {
					t.Fatalf("P15.1: behind Detach and Raise, Attach(%d) does not confirm %d", thread, raises+2+thread)
				}
			}
		}
	}
}

// TestDetach: each thread that is live, once and once more, those that are not, and beyond each end.
func TestDetach(t *testing.T) {
	for n := range most + 1 {
		for how := range ways {
			for _, thread := range append(near(), far()...) {
				h := laid(t, n, how)
				live := h.plain.live(thread)
				if h.detach(t, thread) != live || h.detach(t, thread) {
					t.Fatalf("P15.1: Detach(%d), once and once more, is not %t and false", thread, live)
				}
				h.confirm(t, thread)
				h.attach(t, thread)
			}
		}
	}
	// One by one, until none is live.
	for _, h := range many(t) {
		for thread := range most {
			h.detach(t, thread)
		}
		if h.registry.Least() != h.registry.Epoch() || !h.registry.Agreed() {
			t.Fatalf("P15.1: none is live: Least() = %d, Agreed() = %t; want %d, true", h.registry.Least(), h.registry.Agreed(), h.registry.Epoch())
		}
	}
}

// TestLiveAndOf: each thread, live and not, and beyond each end; nothing changes by asking.
func TestLiveAndOf(t *testing.T) {
	for _, h := range many(t) {
		h.check(t, "asked")
		h.checkFar(t, "asked far out")
		h.check(t, "asked again")
	}
	for set := range 1 << most {
		h := newHeld(most)
		h.quiet = true
		for thread := range most {
			if set>>thread&1 == 1 {
				h.attach(t, thread)
			}
		}
		h.check(t, "each set of live threads")
		for thread := range most {
			if got, want := h.registry.Live(thread), set>>thread&1 == 1; got != want {
				t.Fatalf("P15.1: of threads %08b, Live(%d) = %t; want %t", set, thread, got, want)
			}
		}
		h.raise(t)
		h.check(t, "each set of live threads, behind")
		if got := len(h.registry.Behind()); got != bits.OnesCount(uint(set)) {
			t.Fatalf("P15.1: of threads %08b, %d behind", set, got)
		}
	}
}

// orders are all orders of the numbers below n.
func orders(n int) [][]int {
	if n == 0 {
		return [][]int{nil}
	}
	var l [][]int
	for _, o := range orders(n - 1) {
		for at := range n {
			l = append(l, slices.Insert(slices.Clone(o), at, n-1))
		}
	}
	return l
}

// TestAllRises: threads that came, and confirmed, in any order: rising.
func TestAllRises(t *testing.T) {
	for n := range 6 {
		for _, order := range orders(n) {
			h := newHeld(n)
			for _, thread := range order {
				h.attach(t, thread)
			}
			h.raise(t)
			for _, thread := range order {
				h.confirm(t, thread)
			}
			for _, thread := range order {
				h.detach(t, thread)
				h.attach(t, thread)
			}
		}
	}
	for _, order := range [][]int{{7, 6, 5, 4, 3, 2, 1, 0}, {3, 7, 0, 5, 1, 6, 2, 4}, {4, 0, 7, 2}, {7, 0}, {7}} {
		h := newHeld(most)
		for _, thread := range order {
			h.attach(t, thread)
		}
		want := slices.Sorted(slices.Values(order))
		h.raise(t)
		if !slices.Equal(h.registry.All(), want) || !slices.Equal(h.registry.Behind(), want) {
			t.Errorf("P15.1: of %v, All() = %v, Behind() = %v; want %v", order, h.registry.All(), h.registry.Behind(), want)
		}
	}
}

// TestRaise: once and many times: which epoch is told, and who was not behind is so then.
func TestRaise(t *testing.T) {
	for _, h := range many(t) {
		for range 3 {
			was := h.registry.Epoch()
			live := h.registry.All()
			if got := h.raise(t); got != was+1 || h.registry.Epoch() != was+1 {
				t.Fatalf("P15.1: at %d, Raise() = %d, Epoch() = %d; want %d", was, got, h.registry.Epoch(), was+1)
			}
			if got := h.registry.Behind(); !slices.Equal(got, live) {
				t.Fatalf("P15.1: behind Raise, Behind() = %v; want %v", got, live)
			}
		}
	}
	// Beyond what an octet, or two of them, can tell.
	h := newHeld(3)
	h.quiet = true
	h.attach(t, 2)
	for i := range 70000 {
		if got := h.raise(t); got != i+1 {
			t.Fatalf("P15.1: Raise number %d = %d", i+1, got)
		}
		switch i {
		case 9:
			h.attach(t, 0)
		case 254, 255, 256, 65534, 65535, 65536:
			h.check(t, "raised often")
			h.confirm(t, 0)
			h.check(t, "raised often, and confirmed")
		}
	}
	h.check(t, "raised often")
	if got, want := [2]int{h.registry.Of(0), h.registry.Of(2)}, [2]int{65537, 0}; got != want || h.registry.Least() != 0 {
		t.Errorf("P15.1: Of(0) and Of(2) are %v, Least() = %d; want %v, 0", got, h.registry.Least(), want)
	}
}

// TestConfirm: each thread that is behind, once and once more, those that are not, that are not live, and beyond each end.
func TestConfirm(t *testing.T) {
	for n := range most + 1 {
		for how := range ways {
			for _, thread := range append(near(), far()...) {
				h := laid(t, n, how)
				behind := slices.Contains(h.registry.Behind(), thread)
				was := h.registry.Of(thread)
				if h.confirm(t, thread) != behind || h.confirm(t, thread) {
					t.Fatalf("P15.1: Confirm(%d), once and once more, is not %t and false", thread, behind)
				}
				want := was
				if behind {
					want = h.registry.Epoch()
				}
				if got := h.registry.Of(thread); got != want {
					t.Fatalf("P15.1: behind Confirm(%d), Of(%d) = %d; want %d", thread, thread, got, want)
				}
				h.raise(t)
				h.confirm(t, thread)
			}
		}
	}
}

// TestBehind: none, some, all, and one by one; Agreed and Least with them.
func TestBehind(t *testing.T) {
	for n := range most + 1 {
		for set := range 1 << n {
			h := newHeld(n)
			h.quiet = true
			h.attachAll(t, 0, 1)
			h.raises(t, 1+set%3)
			var want []int
			for thread := range n {
				if set>>thread&1 == 1 {
					want = append(want, thread)
				} else {
					h.confirm(t, thread)
				}
			}
			h.check(t, "each set of threads that are behind")
			lowest := 0
			if len(want) == 0 {
				lowest = h.registry.Epoch()
			}
			r := h.registry
			if got := r.Behind(); !slices.Equal(got, want) || r.Agreed() != (len(want) == 0) || r.Least() != lowest {
				t.Fatalf("P15.1: Behind() = %v, Agreed() = %t, Least() = %d; want %v, %t, %d", got, r.Agreed(), r.Least(), want, len(want) == 0, lowest)
			}
			h.quiet = false
			for _, thread := range want {
				h.confirm(t, thread)
			}
		}
	}
}

// TestAgreedAndLeast: with none live, with one, and with threads that are behind by one and by several.
func TestAgreedAndLeast(t *testing.T) {
	for n := range most + 1 {
		for raises := range 5 {
			h := newHeld(n)
			h.raises(t, raises)
			if r := h.registry; !r.Agreed() || r.Least() != raises {
				t.Fatalf("P15.1: none is live: Agreed() = %t, Least() = %d; want true, %d", r.Agreed(), r.Least(), raises)
			}
			if !h.attach(t, n/2) {
				continue
			}
			for late := range 4 {
				if r := h.registry; r.Agreed() != (late == 0) || r.Least() != raises {
					t.Fatalf("P15.1: one is behind by %d: Agreed() = %t, Least() = %d; want %t, %d", late, r.Agreed(), r.Least(), late == 0, raises)
				}
				h.raise(t)
			}
		}
	}
	// Each thread is the last one by turns.
	for last := range most {
		h := laid(t, most, first)
		for i := range most {
			h.raise(t)
			thread := (last + 1 + i) % most
			h.confirm(t, thread)
			want := 0
			if i == most-1 {
				want = 1
			}
			if got := h.registry.Least(); got != want || h.registry.Agreed() {
				t.Fatalf("P15.1: %d confirmed as number %d: Least() = %d, Agreed() = %t; want %d, false", thread, i, got, h.registry.Agreed(), want)
			}
		}
	}
}

// call is one call, of those that change a registry.
type call struct {
	name   string
	thread int
}

// do calls it; false, if that was refused.
func (c call) do(t *testing.T, h *held) bool {
	t.Helper()
	switch c.name {
	case "Attach":
		return h.attach(t, c.thread)
	case "Detach":
		return h.detach(t, c.thread)
	case "Confirm":
		return h.confirm(t, c.thread)
	}
	h.raise(t)
	return true
}

// calls are all calls that change a registry, of threads up to one beyond each end.
func calls(threads int) []call {
	l := []call{{"Raise", 0}}
	for thread := -1; thread <= threads; thread++ {
		l = append(l, call{"Attach", thread}, call{"Detach", thread}, call{"Confirm", thread})
	}
	return l
}

// TestShortScripts: all scripts of up to five calls, of registries of up to one thread, and of up to four, of two threads.
func TestShortScripts(t *testing.T) {
	for n, length := range []int{5, 5, 4} {
		list := calls(n)
		var from func(h *held, left int)
		from = func(h *held, left int) {
			for _, c := range list {
				next := h.clone(t)
				c.do(t, next)
				if left > 1 {
					from(next, left-1)
				}
			}
			h.check(t, "clones went on")
		}
		from(newHeld(n), length)
	}
}

// TestRefusedChangesNothing: a call that is refused leaves all that is told as it was.
func TestRefusedChangesNothing(t *testing.T) {
	for _, h := range many(t) {
		tries := calls(most)
		for _, thread := range far() {
			tries = append(tries, call{"Attach", thread}, call{"Detach", thread}, call{"Confirm", thread})
		}
		refused := 0
		for _, try := range tries {
			tried := h.clone(t)
			if !try.do(t, tried) {
				refused++
				tried.plain = h.plain
				tried.check(t, try.name+" was refused")
			}
		}
		// Those of no such thread, and, of each other one, of Attach and Detach the one that can't be.
		if fewest := 3*(len(far())+2) + most; refused < fewest {
			t.Fatalf("P15.1: of %v, %d calls were refused; want %d at least", h.plain.book, refused, fewest)
		}
	}
}

// scribble writes on all of l, behind its end too.
func scribble[E any](l []E, e E) {
	l = l[:cap(l)]
	for i := range l {
		l[i] = e
	}
}

// TestAnswersApart: P2: what All and Behind told can be written on; neither the registry nor what was told else changes.
func TestAnswersApart(t *testing.T) {
	for _, h := range many(t) {
		c := h.clone(t)
		all, behind := h.registry.All(), h.registry.Behind()
		allAgain, behindAgain := h.registry.All(), h.registry.Behind()
		scribble(all, 77)
		scribble(behind, 78)
		h.check(t, "what was told was written on")
		c.check(t, "what was told was written on")
		if !slices.Equal(allAgain, h.plain.all()) || !slices.Equal(behindAgain, h.plain.behind()) {
			t.Fatalf("P2: two answers share memory: %v, %v; want %v, %v", allAgain, behindAgain, h.plain.all(), h.plain.behind())
		}
		// What was told ahead stays, whatever comes of the registry.
		wereLive, wereBehind := h.plain.all(), h.plain.behind()
		for _, do := range calls(most) {
			do.do(t, h)
		}
		if !slices.Equal(allAgain, wereLive) || !slices.Equal(behindAgain, wereBehind) {
			t.Fatalf("P2: an answer changed with the registry: %v, %v; want %v, %v", allAgain, behindAgain, wereLive, wereBehind)
		}
		scribble(allAgain, 0)
		scribble(behindAgain, -1)
		h.check(t, "what was told ahead was written on")
		c.check(t, "what was told ahead was written on")
	}
}

// TestCloneApart: the registry goes on and the clone stays; the clone goes on and the registry stays; and the clone's clone.
func TestCloneApart(t *testing.T) {
	for _, h := range many(t) {
		for _, do := range calls(h.plain.threads) {
			a := h.clone(t)
			b := a.clone(t)
			c := b.clone(t)
			b.check(t, "cloned")
			do.do(t, a)
			b.check(t, "the registry went on: "+do.name)
			do.do(t, b)
			a.check(t, "the clone went on: "+do.name)
			c.check(t, "the clone went on: "+do.name)
			c.raise(t)
			do.do(t, c)
			a.check(t, "the clone's clone went on: "+do.name)
			b.check(t, "the clone's clone went on: "+do.name)
		}
		h.check(t, "its clones went on")
	}
	for _, h := range many(t) {
		c := h.clone(t)
		for _, do := range calls(h.plain.threads) {
			do.do(t, c)
			h.check(t, "the clone went on")
		}
		e := h.clone(t)
		for _, do := range calls(h.plain.threads) {
			do.do(t, h)
			c.check(t, "the registry went on")
			e.check(t, "the registry went on")
		}
	}
}

// TestNotMade: of nil, and of a registry that New did not make: false, 0, -1, nothing, nil, but Agreed true, whatever it is told, again and again.
func TestNotMade(t *testing.T) {
	var none *epoch.Registry
	var zero epoch.Registry
	for _, r := range []*epoch.Registry{nil, none, none.Clone(), &zero, {}, new(epoch.Registry), zero.Clone()} {
		h := &held{registry: r, plain: &plain{none: true}}
		for range 3 {
			h.check(t, "not made")
			h.checkFar(t, "not made")
			for _, thread := range append(near(), far()...) {
				if h.attach(t, thread) || h.confirm(t, thread) || h.detach(t, thread) {
					t.Fatalf("P15.1: of one that New did not make, Attach, Confirm or Detach(%d) is true", thread)
				}
			}
			if got := h.raise(t); got != 0 || r.Epoch() != 0 || r.Least() != 0 || !r.Agreed() {
				t.Fatalf("P15.1: of one that New did not make, Raise() = %d, Epoch() = %d, Least() = %d, Agreed() = %t; want 0, 0, 0, true", got, r.Epoch(), r.Least(), r.Agreed())
			}
			if l := append(r.All(), r.Behind()...); len(l) != 0 {
				t.Fatalf("P15.1: of one that New did not make, All and Behind tell %v", l)
			}
			if c := r.Clone(); c != nil {
				t.Fatalf("P15.1: of one that New did not make, Clone() = %v; want nil", c)
			}
		}
	}
}

// TestApart: P3: registries that are none of another one's clones have nothing in common.
func TestApart(t *testing.T) {
	a, b := newHeld(most), newHeld(most)
	for i, do := range append(calls(most), calls(most)...) {
		do.do(t, a)
		b.check(t, "another one went on")
		if i%3 == 0 {
			do.do(t, b)
			a.check(t, "another one went on")
		}
	}
	newHeld(most).check(t, "new, behind others")
}

// rule makes numbers one behind the other, always the same.
type rule uint64

func (r *rule) below(n int) int {
	*r = *r*6364136223846793005 + 1442695040888963407
	return int(uint64(*r)>>33) % n
}

// of is one of l.
func of[E any](r *rule, l []E) E {
	return l[r.below(len(l))]
}

// step does one thing, now and then of a thread that can't be; the greater lean is, up to 20, the more of its steps are Detach.
func (h *held) step(t *testing.T, r *rule, lean int) {
	t.Helper()
	thread := of(r, near())
	if r.below(10) == 0 {
		thread = of(r, far())
	}
	switch n := r.below(20); {
	case n < 2:
		h.raise(t)
	case n < lean:
		h.detach(t, thread)
	case n%2 == 0:
		h.attach(t, thread)
	default:
		h.confirm(t, thread)
	}
}

// TestScripts: P15.1, P15.2: long scripts of all calls, step by step, with all that is told behind each one; threads come until all are live, and go until none is.
func TestScripts(t *testing.T) {
	for seed := range 20 {
		n := most
		if seed < most {
			n = seed
		}
		h := newHeld(n)
		r := rule(seed)
		full, empty, apart := 0, 0, 0
		for i := range 3000 {
			h.step(t, &r, []int{2, 5, 16}[i/60%3])
			if i%50 == 0 {
				h.checkFar(t, "in a script")
			}
			if i%97 == 0 {
				h = h.clone(t)
				h.check(t, "a clone, in a script")
			}
			if l := len(h.registry.All()); l == n {
				full++
			} else if l == 0 {
				empty++
			}
			// What the registry tells is what is held, so this counts by it.
			confirmed := map[int]int{}
			for _, e := range h.plain.book {
				confirmed[e]++
			}
			if len(confirmed) > 2 {
				apart++
			}
		}
		if n == most && (full < 100 || empty < 50 || apart < 300) {
			t.Errorf("script %d: all were live %d times, none %d times, and behind by several numbers %d times: too few", seed, full, empty, apart)
		}
	}
}

// TestClonesGoOnByTurns: long scripts of two that were one.
func TestClonesGoOnByTurns(t *testing.T) {
	for seed := range 10 {
		h := newHeld(most)
		r := rule(1000 + seed)
		for range 50 + seed {
			h.step(t, &r, 5)
		}
		c := h.clone(t)
		for i := range 500 {
			h.step(t, &r, 3+i/40%2*6)
			c.check(t, "the registry went on")
			c.step(t, &r, 9-i/40%2*6)
			h.check(t, "the clone went on")
		}
	}
}

// TestNothingElse: P3: the same script answers the same each time, with another one between.
func TestNothingElse(t *testing.T) {
	run := func(seed int) []int {
		h := newHeld(most)
		r := rule(seed)
		var told []int
		for range 300 {
			h.step(t, &r, 5)
			told = append(told, h.registry.Epoch(), h.registry.Least())
			told = append(told, h.registry.All()...)
			told = append(told, h.registry.Behind()...)
		}
		return told
	}
	wanted := run(7)
	for seed := range 10 {
		run(seed)
		if !slices.Equal(run(7), wanted) {
			t.Fatal("P3: a script told otherwise when it was run again")
		}
	}
}
