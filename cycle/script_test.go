package cycle_test

import (
	"slices"
	"testing"

	"scutage/api"
)

// stands is an object, by where and which it is.
type stands struct {
	at     int
	serial int64
}

// reached are the objects that can be reached, as the collector's own answers tell, rising.
func (h *held) reached() []stands {
	h.Helper()
	var l []stands
	var met [addresses]bool
	meet := func(v api.Value) {
		if v.Kind == api.Reference && !met[v.N] {
			met[v.N] = true
			l = append(l, stands{int(v.N), h.cycle.Serial(int(v.N))})
		}
	}
	meet(ref(h.cycle.Global()))
	for thread := range h.plain.threads {
		if h.cycle.Live(thread) {
			for _, v := range h.cycle.Roots(thread) {
				meet(v)
			}
		}
	}
	for i := 0; i < len(l); i++ {
		if h.cycle.Fields(l[i].at) < 0 {
			h.Fatalf("P23.3: in phase %d, object %v can be reached, and is freed", h.cycle.Phase(), l[i])
		}
		for f := range h.cycle.Fields(l[i].at) {
			v, _ := h.cycle.Read(l[i].at, f)
			meet(v)
		}
	}
	slices.SortFunc(l, func(a stands, b stands) int { return a.at - b.at })
	return l
}

// found are the objects that a thread can find: in its roots, or by reading from those that these and the global object lead to.
func (h *held) found(thread int) []int {
	l := []int{h.plain.global}
	for _, v := range h.plain.roots(thread) {
		if v.Kind == api.Reference {
			l = append(l, int(v.N))
		}
	}
	return h.plain.from(l...)
}

// script is a long one: steps by threads that push and write only references that they found.
type script struct {
	*held
	rule rule
	// Whether threads write only into what they found, too.
	strict bool
	// How great objects are: fields below that, and now and then more.
	most int
	// The serials of what could not be reached when 1 led to 2; nil, when no cycle is on.
	dead []int64
}

// value is one that a thread may push or write.
func (s *script) value(thread int) api.Value {
	switch s.rule.below(6) {
	case 0:
		return api.Value{}
	case 1:
		return num(int64(s.rule.below(addresses)))
	}
	return ref(s.rule.one(s.found(thread)))
}

// fields is how many a new object has.
func (s *script) fields() int {
	if s.rule.below(40) == 0 {
		return 16 + s.rule.below(60)
	}
	return s.rule.below(s.most)
}

// change is a step of a thread's own: it makes, writes, pushes or pops.
func (s *script) change(thread int) {
	switch s.rule.below(10) {
	case 0, 1, 2:
		s.grow(thread)
	case 3, 4, 5, 6:
		l := s.plain.stood()
		if s.strict {
			l = s.found(thread)
		}
		a := s.rule.one(l)
		s.write(thread, a, s.rule.below(len(s.plain.at[a].fields)+1), s.value(thread))
	case 7:
		s.push(thread, s.value(thread))
	default:
		s.pop(thread)
	}
}

// grow makes an object, and mostly holds it.
func (s *script) grow(thread int) {
	n := s.fields()
	a := s.fast(thread, n)
	if a < 0 {
		a = s.slow(thread, n)
	}
	if a >= 0 && s.rule.below(4) > 0 {
		s.push(thread, ref(a))
	}
}

// odd is a step that is mostly refused.
func (s *script) odd(thread int) {
	a := s.rule.below(len(s.plain.kinds)*pageWords + 4)
	switch s.rule.below(7) {
	case 0:
		s.write(thread, a, s.rule.below(9)-1, num(3))
	case 1:
		s.push(thread, s.rule.oneOf(wrong()))
	case 2:
		s.write(thread, s.rule.one(s.plain.stood()), s.rule.below(5), s.rule.oneOf(wrong()))
	case 3:
		s.slow(thread, s.rule.below(300)-80)
	case 4:
		s.fast(thread, s.rule.below(300)-80)
	case 5:
		s.attach(s.rule.below(12) - 2)
	case 6:
		s.detach(len(s.plain.threads) + s.rule.below(3))
	}
}

func (r *rule) oneOf(l []api.Value) api.Value {
	return l[r.below(len(l))]
}

// collect is a step of the collector's, which leaves what can be reached as it is.
func (s *script) collect(thread int) {
	s.Helper()
	reached := s.reached()
	switch s.rule.below(12) {
	case 0:
		s.begin()
	case 1, 2, 3, 4, 5:
		s.poll(thread)
	default:
		s.unit()
	}
	if got := s.reached(); !slices.Equal(got, reached) {
		s.Fatalf("P23.3: in phase %d, what can be reached was %v, and is %v", s.cycle.Phase(), reached, got)
	}
}

// step is one of any kind, behind which all promises hold.
func (s *script) step() {
	s.Helper()
	phase, cycles := s.cycle.Phase(), s.cycle.Cycles()
	thread := s.rule.below(len(s.plain.threads))
	switch s.rule.below(24) {
	case 0:
		if s.rule.below(2) == 0 {
			s.detach(thread)
		} else {
			s.attach(thread)
		}
	case 1:
		s.odd(thread)
	case 2, 3, 4, 5, 6, 7, 8, 9:
		s.collect(thread)
	default:
		s.change(thread)
	}
	s.promises(phase, cycles)
}

// promises wants P23.4 and P23.5 behind a step from that phase.
func (s *script) promises(phase int, cycles int) {
	s.Helper()
	now := s.cycle.Phase()
	if now == idle || now == on {
		for _, a := range s.cycle.Objects() {
			if s.cycle.Marked(a) {
				s.Fatalf("P23.4: in phase %d, %d is marked", now, a)
			}
		}
	}
	if phase <= on && now >= scan {
		s.dead = s.unreached()
	}
	if s.cycle.Cycles() != cycles {
		if s.strict {
			s.gone()
		}
		s.dead = nil
	}
}

// unreached are the serials of the objects that can't be reached.
func (s *script) unreached() []int64 {
	s.Helper()
	reached := s.reached()
	var l []int64
	for _, a := range s.cycle.Objects() {
		if x := (stands{a, s.cycle.Serial(a)}); !slices.Contains(reached, x) {
			l = append(l, x.serial)
		}
	}
	return l
}

// gone wants that what could not be reached when 1 led to 2 is free.
func (s *script) gone() {
	s.Helper()
	for _, a := range s.cycle.Objects() {
		if slices.Contains(s.dead, s.cycle.Serial(a)) {
			s.Fatalf("P23.5: object %d, at %d, could not be reached when 1 led to 2, and is there behind the cycle", s.cycle.Serial(a), a)
		}
	}
}

// newScript begins with some of the threads live.
func newScript(t *testing.T, c api.Config, seed int) *script {
	t.Helper()
	s := &script{held: newHeld(t, c, 0), rule: rule(seed), strict: seed%3 > 0, most: 2 + seed%9}
	for thread := range c.Threads {
		if s.rule.below(4) > 0 {
			s.attach(thread)
		}
	}
	return s
}

// machines are configs of few pages and of some more, with small and great chunks and rooms.
func machines() []api.Config {
	return []api.Config{roomy(2, 1, 1, 1), roomy(3, 2, 1, 1), roomy(4, 2, 4, 4), roomy(5, 3, 2, 2), roomy(6, 3, 16, 256), roomy(8, 4, 1, 3), roomy(12, 8, 3, 1), roomy(16, 2, 16, 1)}
}

// TestScripts: long scripts of all calls, held step by step against plain lists, with P23.3, P23.4 and P23.5 behind each step; polls and units alone end the cycle that is on behind them.
func TestScripts(t *testing.T) {
	cycles, dead := 0, 0
	for i, c := range machines() {
		for seed := range 40 {
			s := newScript(t, c, 100*i+seed)
			for range 700 {
				s.step()
				dead = max(dead, len(s.dead))
			}
			s.ends()
			cycles += s.cycle.Cycles()
			if seed%4 == 0 {
				s.refill()
			}
		}
	}
	if cycles < 1000 || dead < 30 {
		t.Errorf("in all scripts %d cycles ended, and at most %d objects could not be reached: too few", cycles, dead)
	}
}

// ends ends the cycle that is on, by polls of all live threads and units alone, whatever stands where.
func (s *script) ends() {
	s.Helper()
	reached, cycles := s.reached(), s.cycle.Cycles()
	phase := s.cycle.Phase()
	s.finish()
	if phase != idle && s.cycle.Cycles() != cycles+1 {
		s.Fatalf("P23.1: from phase %d on polls and units end %d cycles", phase, s.cycle.Cycles()-cycles)
	}
	if got := s.reached(); !slices.Equal(got, reached) {
		s.Fatalf("P23.3: what can be reached was %v, and is %v", reached, got)
	}
	// One more, and there is nothing but what can be reached.
	s.whole()
	var left []stands
	for _, a := range s.cycle.Objects() {
		left = append(left, stands{a, s.cycle.Serial(a)})
	}
	if !slices.Equal(left, reached) {
		s.Fatalf("P23.5: behind a cycle without a step between there is %v; can be reached: %v", left, reached)
	}
}

// TestScriptsEnd: short scripts, many of them, each of which ends wherever it stands.
func TestScriptsEnd(t *testing.T) {
	var ended [6]int
	for i, c := range machines() {
		for seed := range 60 {
			s := newScript(t, c, 5000+100*i+seed)
			s.quiet = true
			for range 40 + 3*seed {
				s.step()
			}
			ended[s.cycle.Phase()]++
			s.ends()
		}
	}
	for phase, n := range ended {
		if n < 10 {
			t.Errorf("of all scripts %d ended in phase %d: too few", n, phase)
		}
	}
}

// TestQuiet: that all is told behind each step changes nothing: a script goes as well without.
func TestQuiet(t *testing.T) {
	for i, c := range machines() {
		for _, quiet := range []bool{false, true} {
			s := newScript(t, c, 900+i)
			s.quiet = quiet
			for range 500 {
				thread := s.rule.below(c.Threads)
				switch s.rule.below(8) {
				case 0:
					s.begin()
				case 1, 2:
					s.poll(thread)
				case 3, 4:
					s.unit()
				default:
					s.change(thread)
				}
			}
			s.look("the end")
		}
	}
}

// TestHeavy: a heap that is full again and again, with as much that is overwritten as can be, in each phase.
func TestHeavy(t *testing.T) {
	for seed := range 8 {
		s := newScript(t, roomy(20, 4, 1+seed*2, 1+seed), 7000+seed)
		s.quiet = true
		s.strict = true
		for round := range 12 {
			for range 150 {
				s.step()
			}
			for thread := range 4 {
				s.attach(thread)
				for range 60 {
					s.change(thread)
				}
			}
			if round%3 == 0 {
				s.ends()
			}
			s.look("a round")
		}
		s.ends()
		s.refill()
	}
}

// power is n times itself, so often.
func power(n int, times int) int {
	p := 1
	for range times {
		p *= n
	}
	return p
}

// short does one of the kinds of steps of short scripts.
func (h *held) short(kind int, a int) {
	h.Helper()
	switch kind {
	case 0:
		h.begin()
	case 1, 2:
		h.poll(kind - 1)
	case 3:
		h.unit()
	case 4:
		h.units(greatest)
	case 5:
		if v, ok := h.plain.read(a, 0); ok && v.Kind == api.Reference && h.plain.is(0) {
			h.push(1, v)
		}
		h.write(0, a, 0, api.Value{})
	case 6:
		if b := h.slow(1, 1); b >= 0 {
			h.write(1, a, 0, ref(b))
		}
	case 7:
		h.pop(1)
	case 8:
		if !h.detach(1) {
			h.attach(1)
		}
	}
}

// TestShortScripts: all scripts of four steps, from each phase on, by two threads over a small heap.
func TestShortScripts(t *testing.T) {
	const kinds, steps = 9, 4
	for phase := range sweeping + 1 {
		for n := range power(kinds, steps) {
			h := newHeld(t, roomy(3, 2, 1, 1), 2)
			h.quiet = true
			b := h.make(1, num(1))
			a := h.make(0, ref(b))
			h.hold(0, a)
			h.to(phase)
			h.quiet = n%8 > 0
			for range steps {
				h.short(n%kinds, a)
				n /= kinds
			}
			h.look("behind a short script")
			reached := h.reached()
			h.finish()
			if got := h.reached(); !slices.Equal(got, reached) {
				t.Fatalf("P23.3: what can be reached was %v, and is %v", reached, got)
			}
		}
	}
}

// TestNothingElse: P3: the same script tells the same each time, with another one between.
func TestNothingElse(t *testing.T) {
	run := func(seed int) []int {
		s := newScript(t, roomy(5, 3, 2, 2), seed)
		s.quiet = true
		var l []int
		for range 400 {
			s.step()
			l = append(l, s.cycle.Objects()...)
			x := ask(s.cycle)
			l = append(l, x.phase, x.at, x.free, x.cycles, x.units)
		}
		return l
	}
	wanted := run(4)
	for seed := range 6 {
		run(seed)
		if !slices.Equal(run(4), wanted) {
			t.Fatal("P3: a script told otherwise when it was run again")
		}
	}
}
