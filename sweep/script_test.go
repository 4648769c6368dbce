package sweep_test

import (
	"slices"
	"testing"

	"scutage/api"
	"scutage/trace"
)

// rule makes numbers one behind the other, always the same.
type rule uint64

func (r *rule) below(n int) int {
	*r = *r*6364136223846793005 + 1442695040888963407
	return int(uint64(*r)>>33) % n
}

// one is one of l; 0, if there is none.
func (r *rule) one(l []int) int {
	if len(l) == 0 {
		return 0
	}
	return l[r.below(len(l))]
}

// fields is how many fields an object gets: of each small class as often, now and then of a large one.
func (r *rule) fields() int {
	switch r.below(10) {
	case 0:
		return 16 + r.below(112)
	case 1:
		return 16 + r.below(30)
	default:
		return most[1+r.below(4)] - r.below(2)
	}
}

// mark marks an object, now and then any address.
func (h *held) mark(t *testing.T, r *rule) {
	t.Helper()
	a := r.one(h.plain.stood())
	if r.below(12) == 0 {
		a = r.below(addresses)
	}
	if h.plain.marks[a] {
		return
	}
	if r.below(3) == 0 {
		h.shade(t, a)
	} else {
		h.black(t, a)
	}
}

// step does one thing: most often it makes, marks, or goes through a page.
func (h *held) step(t *testing.T, r *rule) {
	t.Helper()
	switch r.below(32) {
	case 0, 1, 2, 3, 4, 5, 6:
		h.make(t, r.below(h.plain.threads), r.fields())
	case 7, 8, 9, 10, 11, 12:
		h.mark(t, r)
	case 13:
		h.clear(t, r.one(h.plain.marked()))
	case 14:
		h.clear(t, r.below(addresses))
	case 15, 16:
		if l := h.plain.stood(); len(l) > 0 {
			h.free(t, r.one(l))
		}
	case 17:
		h.quit(t, r.below(h.plain.threads))
	case 18, 19:
		if l := h.plain.stood(); len(l) > 0 {
			a := r.one(l)
			if n := len(h.plain.at[a].fields); n > 0 {
				h.set(t, a, r.below(n), unlike(a, r.below(n), r.below(64)))
			}
		}
	case 20:
		if h.plain.next == h.plain.pages || r.below(4) == 0 {
			h.start(t)
		}
	case 21:
		if h.plain.next == h.plain.pages {
			h.start(t)
		}
	default:
		h.unit(t)
	}
}

// met is how often a script met what.
type met struct {
	swept int
	done  int
	freed int
	kept  int
	freer int
	large int
	began int
}

func (m *met) count(was *plain, now *plain) {
	switch {
	case now.next == was.next+1:
		m.swept++
		m.freed += now.freed - was.freed
		if len(now.in(was.next)) > 0 {
			m.kept++
		}
		if now.freePages() > was.freePages() {
			m.freer++
		}
		if was.next < len(was.kinds) && was.kinds[was.next] == large {
			m.large++
		}
		if now.next == now.pages {
			m.done++
		}
	case now.next == 0 && was.next > 0:
		m.began++
	}
}

// before is what is counted by, of a plain one that goes on.
func (m *plain) before() *plain {
	was := *m
	was.kinds = slices.Clone(m.kinds)
	return &was
}

// TestScripts: long scripts of all that can be done, step by step, with all that is told behind each one.
func TestScripts(t *testing.T) {
	seed := 0
	var m met
	for _, pages := range []int{1, 2, 3, 5, 8, 13} {
		for _, threads := range []int{1, 2, 5} {
			for _, through := range []int{pages, pages, pages + 2, max(1, pages-1)} {
				seed++
				h := newOver(pages, threads, through)
				r := rule(seed)
				for range 800 {
					was := h.plain.before()
					h.step(t, &r)
					m.count(was, h.plain)
				}
				h.all(t)
				h.look(t, "behind a script")
				h.refill(t)
			}
		}
	}
	if m.swept < 7000 || m.done < 1500 || m.freed < 2500 || m.kept < 2000 || m.freer < 600 || m.large < 400 || m.began < 1500 {
		t.Errorf("scripts swept pages, were done, freed, kept, made pages free, met large ones, and began, that often: %v: too few", m)
	}
}

// TestQuietScripts: long ones with many pages, with units and where objects are made held, and all that is told looked at behind every few steps.
func TestQuietScripts(t *testing.T) {
	for seed := range 40 {
		r := rule(700 + seed)
		pages := 1 + r.below(mostPages)
		h := newOver(pages, 1+r.below(9), pages+r.below(5)-2)
		h.quiet = true
		for i := range 3000 {
			h.step(t, &r)
			if i%100 == 99 {
				h.look(t, "in a script")
			}
		}
		h.all(t)
		h.sweep(t)
		h.look(t, "behind a script")
		h.refill(t)
	}
}

// TestWhole: P20.2: behind a whole sweep just what was marked is there, as it was, and no mark of an object; behind one more nothing is.
func TestWhole(t *testing.T) {
	for seed := range 300 {
		r := rule(3000 + seed)
		pages, threads := 1+r.below(mostPages), 1+r.below(9)
		h := newHeld(pages, threads)
		h.quiet = true
		for range r.below(6*pages) + 1 {
			h.make(t, r.below(threads), r.fields())
		}
		for range r.below(3) {
			h.quit(t, r.below(threads))
		}
		for _, a := range h.plain.stood() {
			if r.below(8) == 0 {
				h.free(t, a)
			}
		}
		share := 1 + r.below(8)
		for _, a := range h.plain.stood() {
			if r.below(8) < share {
				h.black(t, a)
			}
		}
		for range r.below(30) {
			h.mark(t, &r)
		}
		want := h.plain.both()
		stood := len(h.plain.stood())
		other := len(h.plain.marked()) - len(want)
		h.sweep(t)
		h.look(t, "a whole sweep")
		if got := h.store.Objects(); !slices.Equal(got, want) || h.sweeper.Freed() != stood-len(want) {
			t.Fatalf("P20.2: script %d: there is %v, freed are %d; want %v, %d", seed, got, h.sweeper.Freed(), want, stood-len(want))
		}
		if slices.ContainsFunc(want, h.grey.Is) || h.grey.Count() != other {
			t.Fatalf("P20.2: script %d: marked are %v; want %d, all of no object", seed, h.grey.All(), other)
		}
		h.sweep(t)
		h.look(t, "a second sweep")
		if got := h.store.Objects(); len(got) != 0 || h.sweeper.Freed() != len(want) || h.grey.Count() != other {
			t.Fatalf("P20.2: script %d: behind one more there is %v, freed are %d, %d marks are left", seed, got, h.sweeper.Freed(), h.grey.Count())
		}
		owned := 0
		for p := range pages {
			if h.store.Owner(p) >= 0 {
				owned++
			}
		}
		if got := h.store.Pages(); got != pages-owned {
			t.Fatalf("P20.2: script %d: of %d pages, %d of them somebody's, %d are free", seed, pages, owned, got)
		}
		for thread := range threads {
			h.quit(t, thread)
		}
		if got := h.store.Pages(); got != pages {
			t.Fatalf("P20.2: script %d: of %d pages, nobody's all of them, %d are free", seed, pages, got)
		}
	}
}

// reached are the addresses that can be reached from a, rising.
func (h *held) reached(a int) []int {
	l := []int{a}
	for i := 0; i < len(l); i++ {
		for _, v := range h.plain.at[l[i]].fields {
			if v.Kind == api.Reference && !slices.Contains(l, int(v.N)) {
				l = append(l, int(v.N))
			}
		}
	}
	slices.Sort(l)
	return l
}

// TestTraced: P20.2: behind a tracer of the same store and grey, a sweep leaves just what can be reached, again and again.
func TestTraced(t *testing.T) {
	kept, freed := 0, 0
	for seed := range 60 {
		r := rule(11000 + seed)
		pages := 2 + r.below(20)
		h := newHeld(pages, 2)
		h.quiet = true
		tracer := trace.New(h.store, h.grey, pages, 1+r.below(16))
		root := h.make(t, 0, 15)
		for range 5 {
			for range 3 * pages {
				h.make(t, r.below(2), r.fields())
			}
			stood := h.plain.stood()
			for _, a := range stood {
				for i := range h.plain.at[a].fields {
					v := num(int64(r.one(stood)))
					if i < 2 && r.below(2) == 0 {
						v = ref(r.one(stood))
					}
					h.set(t, a, i, v)
				}
			}
			want := h.reached(root)
			h.grey.Shade(root)
			for tracer.Unit() {
			}
			for _, a := range h.grey.All() {
				h.plain.marks[a] = true
			}
			h.sweep(t)
			if got := h.store.Objects(); !slices.Equal(got, want) || h.grey.Count() != 0 || h.sweeper.Freed() != len(stood)-len(want) {
				t.Fatalf("P20.2: script %d: behind a tracer there is %v; want %v", seed, got, want)
			}
			h.plain.list, h.plain.over = nil, false
			h.look(t, "behind a tracer")
			kept += len(want)
			freed += h.sweeper.Freed()
		}
	}
	if kept < 300 || freed < 5000 {
		t.Errorf("sweeps behind tracers kept %d, and freed %d: too few", kept, freed)
	}
}

// TestShortScripts: all scripts of few steps over a small store.
func TestShortScripts(t *testing.T) {
	const kinds = 7
	run := func(script []int) {
		h := newHeld(2, 1)
		h.quiet = true
		h.fill(t, 0, 15, 3)
		h.black(t, 16, 32)
		h.quiet = false
		for _, what := range script {
			switch what {
			case 0:
				h.start(t)
			case 1, 2:
				h.units(t, what)
			case 3:
				h.make(t, 0, 15)
			case 4:
				if !h.plain.marks[0] {
					h.black(t, 0)
				}
			case 5:
				h.clear(t, 32)
			case 6:
				h.quit(t, 0)
			}
		}
		h.all(t)
		h.refill(t)
	}
	for n := range power(kinds, 5) {
		var script []int
		for range 5 {
			script = append(script, n%kinds)
			n /= kinds
		}
		run(script)
	}
}

// TestNothingElse: P3: the same script answers the same each time, with another one between.
func TestNothingElse(t *testing.T) {
	run := func(seed int) []int {
		h := newHeld(6, 3)
		h.quiet = true
		r := rule(seed)
		var told []int
		for range 600 {
			h.step(t, &r)
			told = append(told, h.store.Objects()...)
			told = append(told, h.grey.All()...)
			told = append(told, h.sweeper.At(), h.sweeper.Freed(), h.store.Pages())
		}
		return told
	}
	wanted := run(7)
	for seed := range 10 {
		run(seed)
		if !slices.Equal(run(7), wanted) {
			t.Fatal("P3: a script told otherwise when it was run again")
		}
	}
}
