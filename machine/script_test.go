package machine_test

import (
	"slices"
	"testing"

	"scutage/api"
	"scutage/config"
	"scutage/machine"
)

// rule makes numbers that look like any, always the same ones.
type rule uint64

// next is a number from 0 to n - 1.
func (r *rule) next(n int) int {
	*r = *r*6364136223846793005 + 1442695040888963407
	return int(uint64(*r)>>33) % n
}

// one is any of these.
func one[E any](r *rule, l ...E) E {
	return l[r.next(len(l))]
}

// place is one of n places, seldom one that is none.
func (r *rule) place(n int) int {
	if n == 0 || r.next(20) == 0 {
		return one(r, n, n, n+1, r.next(256))
	}
	return r.next(n)
}

// config is any that may be: mostly of few pages, so that cycles are short, and much is refused.
func (r *rule) config() api.Config {
	for {
		c := api.Config{
			Pages:   2 + r.next(one(r, 4, 8, 16, 63)),
			Threads: 1 + r.next(8),
			Window:  1 + r.next(64),
			Quantum: 1 + r.next(one(r, 2, 4, 16)),
			Target:  r.next(1000),
			Cap:     r.next(one(r, 1, 4, 20, 65536)),
			Tax:     r.next(one(r, 3, 8, 65)),
			Chunk:   1 + r.next(one(r, 1, 4, 16)),
			Stack:   1 + r.next(one(r, 1, 4, 256)),
			Trigger: r.next(one(r, 1, 6, 65)),
		}
		if config.Check(c) == api.OK {
			return c
		}
	}
}

// script is a long one, of steps of all kinds, and what its answers tell.
type script struct {
	*held
	rule rule
	// A machine that is told those steps alone that have no error, or ErrFull.
	twin *machine.Machine
	// Each thread's letters, and the bank, as the answers alone tell.
	letters       [][]bool
	balance, lost int
	// The serials of what could not be reached when all had confirmed that a cycle is on; nil, when none is on.
	dead []int64
	met  seen
}

// seen is how often steps of each kind had each answer's code; and how often what was met.
type seen struct {
	codes map[[2]int]int
	taxes map[string]int
	dead  int
	ended int
}

func newSeen() seen {
	return seen{codes: map[[2]int]int{}, taxes: map[string]int{}}
}

// newScript begins with no live thread.
func newScript(t *testing.T, c api.Config, seed int) *script {
	t.Helper()
	return &script{held: newHeld(t, c, 0), rule: rule(seed), twin: made(t, c), letters: make([][]bool, c.Threads), met: newSeen()}
}

// thread is any one, mostly one that is live.
func (s *script) thread() int {
	if l := s.plain.graph.Live(); len(l) > 0 && s.rule.next(30) > 0 {
		return one(&s.rule, l...)
	}
	return s.rule.place(s.plain.config.Threads)
}

// leading is a place of thread t's values where a reference stands; any one, if there is none, and else seldom.
func (s *script) leading(t int) int {
	var l []int
	for i := range s.plain.values(t) {
		if s.plain.fields(t, i) >= 0 {
			l = append(l, i)
		}
	}
	if len(l) == 0 || s.rule.next(20) == 0 {
		return s.rule.place(s.plain.values(t))
	}
	return one(&s.rule, l...)
}

// cost is that of a unit, seldom one that may not be.
func (s *script) cost() int {
	q := s.plain.config.Quantum
	if s.rule.next(25) == 0 {
		return one(&s.rule, 0, q+1, 255)
	}
	return 1 + s.rule.next(q)
}

// whole is n, seldom another one.
func (s *script) whole(n int64) int64 {
	if s.rule.next(16) > 0 {
		return n
	}
	return one(&s.rule, n+1, n-1, -n, n*2, 1<<62, least, greatest)
}

// next is any step, of those that make sense mostly.
func (s *script) next() api.Step {
	r := &s.rule
	kinds := []int{1, 1, 2, 3, 3, 3, 3, 3, 3, 3, 3, 4, 5, 6, 6, 6, 7, 7, 8, 8, 8, 8, 8, 8, 8, 8, 9, 9, 9, 9, 9, 10, 10, 10, 10, 10, 10, 10, 11, 12, 13, 13, 14, 14, 14, 14, 14, 14, 15, 15, 16, 16, 16, 17}
	x := api.Step{Kind: one(r, kinds...), T: s.thread()}
	// What a thread holds that is none is nothing.
	t := x.T
	switch x.Kind {
	case 3:
		x.N, x.Cost = s.whole(int64(one(r, r.next(4), r.next(8), r.next(16), r.next(16), r.next(40), r.next(128)))), s.cost()
	case 4:
		x.N = one(r, int64(r.next(5)), int64(-r.next(5)), s.whole(mostNumber-1), s.whole(-mostNumber))
	case 7:
		x.I = r.place(s.plain.values(t))
	case 9, 10, 12:
		x.I = s.leading(t)
		if x.Kind != 12 {
			x.F = r.place(max(0, s.plain.fields(t, x.I)))
		}
		if x.Kind == 10 {
			x.J = one(r, r.place(s.plain.values(t)), s.leading(t))
		}
	case 11:
		x.I, x.J = r.place(s.plain.values(t)), r.place(s.plain.values(t))
	case 13, 15, 16:
		x.N = s.whole(int64(one(r, 1, 1+r.next(4), 1+r.next(16), 1+r.next(64))))
		if x.Kind == 15 {
			x.Cost = s.cost()
		}
	}
	if x.Kind > lastOfThreads {
		x.T = 0
	}
	return s.spoilt(x)
}

// spoilt is x, seldom with a field changed.
func (s *script) spoilt(x api.Step) api.Step {
	if s.rule.next(60) > 0 {
		return x
	}
	n := one(&s.rule, -1, 1, 5, 255, 256, least, greatest)
	*one(&s.rule, &x.Kind, &x.T, &x.I, &x.F, &x.J, &x.Cost) = n
	return x
}

// play does any step, behind which all promises hold.
func (s *script) play() {
	s.Helper()
	x := s.next()
	phase, cycles := s.machine.Phase(), s.machine.Cycles()
	way := "frame"
	a := api.Answer{}
	if s.rule.next(4) == 0 && code14(x) {
		a = s.frame(x)
	} else {
		a, way = s.step(x), "step"
	}
	s.met.codes[[2]int{x.Kind, int(a.Code)}]++
	if a.Code == api.OK || a.Code == api.ErrFull {
		if b := s.twin.Step(x); b != a {
			s.Fatalf("P4: %s of %v = %v; without the steps that had errors it is %v", way, x, a, b)
		}
	}
	s.audit(x, a)
	s.tax(x, a, phase)
	s.promises(phase, cycles)
}

// code14 tells whether a step has octets.
func code14(x api.Step) bool {
	for _, n := range []int{x.Kind, x.T, x.I, x.F, x.J, x.Cost} {
		if n < 0 || n > 255 {
			return false
		}
	}
	return true
}

// audit tells from an answer alone which letters came, and what became of the bank, and holds that against what the machine tells, and against its config.
func (s *script) audit(x api.Step, a api.Answer) {
	s.Helper()
	fine := a.Code == api.OK
	switch {
	case x.Kind == 3 && (fine || a.Code == api.ErrFull), x.Kind == 15 && fine:
		s.letters[x.T] = append(s.letters[x.T], slices.Repeat([]bool{true}, a.Done*x.Cost)...)
	case x.Kind == 13 && fine:
		s.letters[x.T] = append(s.letters[x.T], make([]bool, x.N)...)
	}
	if fine && x.Kind >= 3 && x.Kind <= 12 {
		s.letters[x.T] = append(s.letters[x.T], false)
	}
	s.balance -= a.Credit
	if x.Kind > 3 {
		kept := min(a.Done, s.plain.config.Cap-s.balance)
		s.balance += kept
		s.lost += a.Done - kept
	}
	if s.balance < 0 || s.machine.Balance() != s.balance || s.machine.Lost() != int64(s.lost) {
		s.Fatalf("G3: Balance() = %d, Lost() = %d; the answers tell %d, %d", s.machine.Balance(), s.machine.Lost(), s.balance, s.lost)
	}
	if x.Kind == 3 && a.Done+a.Credit > s.plain.config.Tax {
		s.Fatalf("G3: Step(%v) = %v, with a tax of %d", x, a, s.plain.config.Tax)
	}
}

// windows wants that in no window of any thread's letters are more the collector's than the config leaves.
func (s *script) windows() {
	s.Helper()
	c := s.plain.config
	for t, l := range s.letters {
		n := 0
		for i, work := range l {
			if work {
				n++
			}
			if i >= c.Window && l[i-c.Window] {
				n--
			}
			if n > most(c) {
				s.Fatalf("G2: of %v, %d letters of a window of thread %d are the collector's", c, n, t)
			}
		}
	}
}

// tax notes which taxes were met.
func (s *script) tax(x api.Step, a api.Answer, phase int) {
	if x.Kind != 3 || phase != tracing && phase != sweeping {
		return
	}
	name := ""
	switch {
	case a.Code == api.ErrTax:
		name = "refused"
	case a.Done > 0 && a.Credit > 0:
		name = "from both"
	case a.Done > 0:
		name = "from time"
	case a.Credit > 0:
		name = "from the bank"
	}
	if a.Code == api.ErrFull {
		name += ", in vain"
	}
	s.met.taxes[name]++
}

// promises wants G1 and G4 behind a step from that phase: that what can be reached stays, and that what could not be reached when all had confirmed is gone when the cycle has ended.
func (s *script) promises(phase int, cycles int) {
	s.Helper()
	now := s.machine.Phase()
	objects := s.machine.Objects()
	var dead []int64
	for _, serial := range objects {
		if !slices.ContainsFunc(s.plain.seen.Nodes, func(n api.Node) bool { return n.Serial == serial }) {
			dead = append(dead, serial)
		}
	}
	if len(dead)+len(s.plain.seen.Nodes) != len(objects) {
		s.Fatalf("G1: in phase %d, can be reached %v; there are %v", now, s.plain.seen.Nodes, objects)
	}
	if phase <= on && now >= scan {
		s.dead = dead
		s.met.dead += len(dead)
	}
	if s.machine.Cycles() != cycles {
		for _, serial := range s.dead {
			if slices.Contains(objects, serial) {
				s.Fatalf("G4: object %d could not be reached when all had confirmed, and is there behind the cycle", serial)
			}
		}
		s.dead = nil
		s.met.ended++
	}
}

// finish ends the cycle that is on, by polls and work alone, in as many rounds as chapter 43 tells.
func (s *script) finish() {
	s.Helper()
	c := s.plain.config
	words := 32 * c.Pages
	rounds := (words+words/2*c.Pages+c.Pages)/64 + 12
	for s.machine.Phase() != idle {
		if rounds--; rounds < 0 {
			s.Fatalf("G4: of %v, the cycle does not end, in phase %d", c, s.machine.Phase())
		}
		s.polls()
		s.do(back(64))
	}
}

// ends ends the cycle that is on, and makes a whole one: there is just what can be reached then.
func (s *script) ends() {
	s.Helper()
	view := s.machine.View()
	s.finish()
	s.do(begin())
	s.finish()
	if now := s.machine.View(); !alike(now, view) {
		s.Fatalf("G1: View() = %v; ahead of a cycle it was %v", now, view)
	}
	var nodes []int64
	for _, n := range view.Nodes {
		nodes = append(nodes, n.Serial)
	}
	if got := s.machine.Objects(); !slices.Equal(got, nodes) {
		s.Fatalf("G4: Objects() = %v; can be reached: %v", got, nodes)
	}
}

// same wants the twin, which knows nothing of errors, to tell the same.
func (s *script) same() {
	s.Helper()
	m, w := s.machine, s.twin
	if !alike(m.View(), w.View()) || !slices.Equal(m.Objects(), w.Objects()) || !slices.Equal(m.Live(), w.Live()) {
		s.Fatalf("P4: View() = %v; without the steps that had errors it is %v", m.View(), w.View())
	}
	a, b := s.told(), (&held{machine: w}).told()
	if a != b {
		s.Fatalf("P4: it is %v; without the steps that had errors it is %v", a, b)
	}
}

// add adds up what was met.
func (m *seen) add(x seen) {
	for k, n := range x.codes {
		m.codes[k] += n
	}
	for k, n := range x.taxes {
		m.taxes[k] += n
	}
	m.dead += x.dead
	m.ended += x.ended
}

// enough wants each kind to have had each code that it may have, and each tax to have been met.
func (m *seen) enough(t *testing.T) {
	t.Helper()
	for kind := 1; kind <= lastKind; kind++ {
		for _, e := range may(kind) {
			if n := m.codes[[2]int{kind, int(e)}]; n < 20 {
				t.Errorf("%d steps of kind %d had the error %d: too few", n, kind, e)
			}
		}
	}
	for _, name := range []string{"refused", "from both", "from time", "from the bank", "from both, in vain", "from time, in vain", "from the bank, in vain"} {
		if m.taxes[name] < 20 {
			t.Errorf("%d taxes were %s: too few", m.taxes[name], name)
		}
	}
	if m.dead < 1000 || m.ended < 300 {
		t.Errorf("%d cycles ended, and %d objects could not be reached: too few", m.ended, m.dead)
	}
}

// may are the codes that steps of this kind are answered, but for those of steps that may not be.
func may(kind int) []api.Errno {
	l := []api.Errno{api.OK, api.ErrRange}
	switch {
	case kind == 1, kind == 17:
		l = append(l, api.ErrState)
	case kind <= lastOfThreads:
		l = append(l, api.ErrNone)
	}
	if slices.Contains([]int{3, 4, 5, 6, 7, 9}, kind) {
		l = append(l, api.ErrCount)
	}
	if slices.Contains([]int{9, 10, 12}, kind) {
		l = append(l, api.ErrKind)
	}
	if kind == 3 {
		l = append(l, api.ErrFull, api.ErrTax)
	}
	if kind == 15 {
		l = append(l, api.ErrTax)
	}
	return l
}

// TestScripts: long scripts of all kinds of steps, of several threads, of any config: each answer and each view is a graph's, and all that is told is what the chapter says.
func TestScripts(t *testing.T) {
	met := newSeen()
	for seed := range 150 {
		r := rule(seed*7919 + 1)
		s := newScript(t, r.config(), seed*104729+7)
		for range 900 {
			s.play()
		}
		s.same()
		s.windows()
		s.ends()
		met.add(s.met)
	}
	met.enough(t)
}

// TestScriptsOfUsual: a longer one, of the usual config, and of the least and the greatest.
func TestScriptsOfUsual(t *testing.T) {
	for seed, c := range []api.Config{
		config.Usual(),
		{Pages: 2, Threads: 1, Window: 1, Quantum: 1, Chunk: 1, Stack: 1},
		{Pages: 64, Threads: 8, Window: 64, Quantum: 16, Target: 750, Cap: 65535, Tax: 64, Chunk: 16, Stack: 256, Trigger: 64},
		{Pages: 3, Threads: 8, Window: 64, Quantum: 1, Cap: 3, Tax: 2, Chunk: 1, Stack: 1, Trigger: 3},
	} {
		s := newScript(t, c, seed+31)
		for range 6 {
			for range 700 {
				s.play()
			}
			s.same()
			s.windows()
		}
		s.ends()
	}
}

// TestScriptsEnd: short scripts, many of them, each of which ends wherever it stands.
func TestScriptsEnd(t *testing.T) {
	var ended [6]int
	for seed := range 400 {
		r := rule(seed*31337 + 5)
		s := newScript(t, r.config(), seed*17+3)
		s.quiet = true
		for range 40 + seed {
			s.play()
		}
		ended[s.machine.Phase()]++
		s.ends()
		s.look("the end")
	}
	for phase, n := range ended {
		if n < 8 {
			t.Errorf("of all scripts %d ended in phase %d: too few", n, phase)
		}
	}
}

// TestQuiet: that all is asked behind each step changes nothing: a machine that is asked nothing answers the same.
func TestQuiet(t *testing.T) {
	for seed := range 20 {
		r := rule(seed + 900)
		c := r.config()
		s := newScript(t, c, seed)
		other := made(t, c)
		for range 500 {
			x := s.next()
			if a, b := s.step(x), other.Step(x); a != b {
				t.Fatalf("P3: Step(%v) = %v; of a machine that is asked nothing it is %v", x, a, b)
			}
		}
		s.twin = other
		s.same()
	}
}
