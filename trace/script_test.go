package trace_test

import (
	"slices"
	"testing"

	"scutage/api"
)

// rule makes numbers one behind the other, always the same.
type rule uint64

func (r *rule) below(n int) int {
	*r = *r*6364136223846793005 + 1442695040888963407
	return int(uint64(*r)>>33) % n
}

// one is one of l; 0, if there is none.
func (r *rule) one(l []int) int {
	if len(l) == 0 {
		return 0
	}
	return l[r.below(len(l))]
}

// fields is how many fields an object gets: few, more often than many.
func (r *rule) fields() int {
	switch r.below(12) {
	case 0:
		return r.below(128)
	case 1, 2:
		return r.below(40)
	default:
		return r.below(9)
	}
}

// value is a field's: most often a reference to an object, else one to any address, a number that is an address, or nothing.
func (r *rule) value(objects []int) api.Value {
	switch r.below(9) {
	case 0:
		return api.Value{}
	case 1:
		return num(int64(r.below(addresses)))
	case 2:
		return ref(r.below(addresses))
	default:
		return ref(r.one(objects))
	}
}

// odd is any entry of an object, now and then of none, and of a field that is none.
func (r *rule) odd(h *held) (int, int) {
	at := r.one(h.plain.stood())
	if r.below(4) == 0 {
		l := far()
		return l[r.below(len(l))], l[r.below(len(l))]
	}
	return at, r.below(len(h.plain.objects[at])+3) - 1
}

// grow makes an object, whose fields have values from the first on.
func (h *held) grow(t *testing.T, r *rule) {
	t.Helper()
	stood := h.plain.stood()
	var l []api.Value
	for range r.fields() {
		l = append(l, r.value(stood))
	}
	h.make(t, l...)
}

// write writes a field of an object.
func (h *held) write(t *testing.T, r *rule) {
	t.Helper()
	stood := h.plain.stood()
	if a := r.one(stood); len(h.plain.objects[a]) > 0 {
		h.set(t, a, r.below(len(h.plain.objects[a])), r.value(stood))
	}
}

// step does one thing: most often a unit.
func (h *held) step(t *testing.T, r *rule) {
	t.Helper()
	stood := h.plain.stood()
	switch r.below(24) {
	case 0:
		h.grow(t, r)
	case 1, 2:
		h.write(t, r)
	case 3:
		if len(stood) > 3 && r.below(2) == 0 {
			h.free(t, r.one(stood))
		}
	case 4, 5:
		for range 1 + r.below(h.plain.room+2) {
			h.shade(t, r.one(stood))
		}
	case 6:
		if a := r.below(addresses); !h.plain.marks[a] {
			h.black(t, a)
		}
	case 7, 8, 9:
		for range 1 + r.below(6) {
			h.clear(t, r.one(h.plain.marked()))
		}
	case 10:
		at, from := r.odd(h)
		h.rest(t, entry(at, from))
	case 11:
		if r.below(4) == 0 {
			h.next(t)
		}
	case 12:
		if r.below(4) == 0 {
			h.settle(t)
		}
	default:
		h.unit(t)
	}
}

// met is how often a script met what.
type met struct {
	lost   int
	looked int
	began  int
	none   int
	rests  int
}

func (m *met) count(was plain, now *plain) {
	if !was.over && now.over {
		m.lost++
	}
	if was.at >= 0 && was.at != now.at {
		m.looked++
	}
	if was.at < 0 && now.at >= 0 {
		m.began++
	}
	if was.idle() && now.idle() {
		m.none++
	}
	if n := len(now.list); n > 0 && now.list[n-1].From > 0 {
		m.rests++
	}
}

// TestScripts: long scripts of all that can be done, with little room and small chunks, step by step, with all that is told behind each one.
func TestScripts(t *testing.T) {
	seed := 0
	var m met
	for _, pages := range []int{2, 3, 6, 12} {
		for _, room := range []int{1, 2, 3, 7} {
			for _, chunk := range []int{1, 2, 5} {
				seed++
				h := newHeld(pages, room, chunk)
				r := rule(seed)
				for range 2 * pages {
					h.grow(t, &r)
				}
				for i := range 1200 {
					was := *h.plain
					h.step(t, &r)
					m.count(was, h.plain)
					if i%11 == 0 {
						h.look(t, "in a script")
					}
				}
				h.all(t)
				h.look(t, "behind a script")
			}
		}
	}
	if m.lost < 1000 || m.looked < 1000 || m.began < 500 || m.none < 1000 || m.rests < 1000 {
		t.Errorf("scripts lost, looked, began to look, had nothing to do, and let a rest wait, that often: %v: too few", m)
	}
}

// TestQuietScripts: the same, with units alone held, and all that is told looked at behind all.
func TestQuietScripts(t *testing.T) {
	for seed := range 40 {
		r := rule(500 + seed)
		h := newHeld(1+r.below(20), 1+r.below(6), 1+r.below(16))
		h.quiet = true
		for range 900 {
			h.step(t, &r)
		}
		h.look(t, "behind a script")
		h.all(t)
		h.look(t, "behind all units")
	}
}

// reached are the addresses that can be reached from those, by fields, rising: those first.
func (m *plain) reached(from []int) []int {
	var is [addresses]bool
	l := slices.Clone(from)
	for i := 0; i < len(l); i++ {
		a := l[i]
		if is[a] {
			continue
		}
		is[a] = true
		for _, v := range m.objects[a] {
			if v.Kind == 2 {
				l = append(l, int(v.N))
			}
		}
	}
	slices.Sort(l)
	return slices.Compact(l)
}

// TestReached: P19.2: marks come by Shade alone, between units, and no field is written since: behind all units just what can be reached is marked, nothing waits, no loss is noted.
func TestReached(t *testing.T) {
	lost, unmarked := 0, 0
	for seed := range 400 {
		r := rule(9000 + seed)
		pages := 1 + r.below(mostPages)
		h := newHeld(pages, 1+r.below(4)*r.below(4), 1+r.below(mostChunk))
		h.quiet = true
		for range 1 + r.below(3*pages) {
			h.grow(t, &r)
		}
		for range r.below(20) {
			h.write(t, &r)
		}
		for range r.below(4) {
			if stood := h.plain.stood(); len(stood) > 1 {
				h.free(t, r.one(stood))
			}
		}
		var from []int
		for range 1 + r.below(5) {
			a := r.one(h.plain.stood())
			if r.below(6) == 0 {
				a = r.below(addresses)
			}
			from = append(from, a)
			h.shade(t, a)
			h.units(t, r.below(4))
			if r.below(5) == 0 {
				h.all(t)
			}
			if h.grey.Over() {
				lost++
			}
		}
		h.all(t)
		want := h.plain.reached(from)
		if got := h.grey.All(); !slices.Equal(got, want) {
			t.Fatalf("P19.2: script %d: from %v, marked are %v; want %v", seed, from, got, want)
		}
		if h.grey.Waiting() != 0 || h.grey.Over() || !h.tracer.Idle() || h.tracer.Page() != -1 {
			t.Fatalf("P19.2: script %d: behind all units something waits, a loss is noted, or there is something to do", seed)
		}
		if slices.ContainsFunc(h.plain.stood(), func(a int) bool { return !h.plain.marks[a] }) {
			unmarked++
		}
		h.look(t, "all that can be reached")
	}
	if lost < 100 || unmarked < 100 {
		t.Errorf("scripts lost %d times, and left objects without a mark %d times: too few", lost, unmarked)
	}
}

// TestShapes: P19.2: chains forward and backward, rings, and one that refers to all, over each room and chunk of few and of many.
func TestShapes(t *testing.T) {
	// Each tells to which object number field f of object number i refers, of n.
	shapes := []func(i int, f int, n int) int{
		func(i int, f int, n int) int { return min(i+1, n-1) },
		func(i int, f int, n int) int { return max(i-1, 0) },
		func(i int, f int, n int) int { return (i + 1) % n },
		func(i int, f int, n int) int { return (i*7 + f*13) % n },
		func(i int, f int, n int) int { return (2*i + 1 + f) % n },
		func(i int, f int, n int) int { return i },
	}
	for which, shape := range shapes {
		for _, size := range []int{1, 3, 7, 20} {
			for _, room := range []int{1, 2, 5, mostRoom} {
				for _, chunk := range []int{1, 3, mostChunk} {
					h := newHeld(20, room, chunk)
					h.quiet = true
					var made []int
					for a := h.make(t, make([]api.Value, size)...); a >= 0; a = h.make(t, make([]api.Value, size)...) {
						made = append(made, a)
					}
					for i, a := range made {
						for f := range size {
							h.set(t, a, f, ref(made[shape(i, f, len(made))]))
						}
					}
					for _, from := range []int{made[len(made)/2], made[0], made[len(made)-1]} {
						was := h.grey.All()
						h.shade(t, from)
						h.all(t)
						if got, want := h.grey.All(), h.plain.reached(append(was, from)); !slices.Equal(got, want) {
							t.Fatalf("P19.2: shape %d, %d fields, room %d, chunk %d: marked are %v; want %v", which, size, room, chunk, got, want)
						}
					}
					h.look(t, "a shape")
				}
			}
		}
	}
}

// TestShortScripts: all scripts of few steps over one small graph: with room for one and two.
func TestShortScripts(t *testing.T) {
	run := func(script []int, room int) {
		h := newHeld(2, room, 1)
		h.quiet = true
		h.make(t, ref(2), ref(4), ref(34))
		h.make(t, ref(32), ref(0), ref(8))
		h.make(t, ref(60))
		h.quiet = false
		for _, what := range script {
			switch what {
			case 0:
				h.shade(t, 0)
			case 1:
				h.lose(t)
			case 2:
				h.clear(t, 4)
			case 3:
				h.rest(t, entry(4, 1))
			case 4:
				h.settle(t)
			default:
				h.units(t, what-4)
			}
		}
		h.all(t)
		h.look(t, "a short script")
	}
	for room := 1; room <= 2; room++ {
		for n := range 7 * 7 * 7 * 7 {
			run([]int{n % 7, n / 7 % 7, n / 49 % 7, n / 343}, room)
		}
	}
}

// TestNothingElse: P3: the same script answers the same each time, with another one between.
func TestNothingElse(t *testing.T) {
	run := func(seed int) []int {
		h := newHeld(5, 2, 2)
		h.quiet = true
		r := rule(seed)
		var told []int
		for range 8 {
			h.grow(t, &r)
		}
		for range 300 {
			h.step(t, &r)
			told = append(told, h.grey.All()...)
			told = append(told, h.tracer.Page(), -h.grey.Waiting())
		}
		return told
	}
	wanted := run(7)
	for seed := range 10 {
		run(seed)
		if !slices.Equal(run(7), wanted) {
			t.Fatal("P3: a script told otherwise when it was run again")
		}
	}
}
