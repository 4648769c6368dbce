package cycle_test

import (
	"math"
	"slices"
	"strconv"
	"testing"

	"scutage/api"
	"scutage/cycle"
)

const (
	least    = math.MinInt64
	greatest = math.MaxInt64
)

// usual is a config of so many pages and threads; what a collector does hangs on Chunk and Stack besides.
func usual(pages int, threads int) api.Config {
	return api.Config{Pages: pages, Threads: threads, Window: 10, Quantum: 1, Target: 500, Cap: 10, Tax: 2, Chunk: 4, Stack: 16, Trigger: 1}
}

// roomy is such a config, with that chunk, and room for so many entries.
func roomy(pages int, threads int, chunk int, room int) api.Config {
	c := usual(pages, threads)
	c.Chunk, c.Stack = chunk, room
	return c
}

// ref is the reference to a, num the number n; nothing is api.Value{}.
func ref(a int) api.Value {
	return api.Value{Kind: api.Reference, N: int64(a)}
}

func num(n int64) api.Value {
	return api.Value{Kind: api.Number, N: n}
}

// far are numbers that are no thread, page, address or field, and such as may be when cut short.
func far() []int {
	return []int{-1, -2, -8, -32, -64, -127, -128, -2048, -1 << 31, -1 << 32, -1<<32 + 1, least, least + 1, least + 8, least + 32,
		2048, 2049, 4096, 65536, 65537, 1 << 31, 1 << 32, 1<<32 + 1, 1 << 62, greatest - 32, greatest - 1, greatest}
}

// wrong are values that may not be, or refer to nothing where no object begins at an odd address or behind the last page.
func wrong() []api.Value {
	l := []api.Value{{Kind: api.Nothing, N: 1}, {Kind: api.Nothing, N: -1}, {Kind: 3}, {Kind: -1}, {Kind: 258}, {Kind: 1<<32 + 2}, {Kind: least}, {Kind: greatest},
		num(-1<<40 - 1), num(1 << 40), num(least), num(greatest), ref(1), ref(2047)}
	for _, a := range far() {
		l = append(l, ref(a))
	}
	return l
}

// held is a collector, and the plain one that it is held against.
type held struct {
	*testing.T
	cycle *cycle.Collector
	plain *plain
	// Between the calls that are looked at, only answers are held.
	quiet bool
}

// newHeld is a new one, of a config that may be, with so many live threads.
func newHeld(t *testing.T, c api.Config, live int) *held {
	t.Helper()
	g, e := cycle.New(c)
	if g == nil || e != api.OK {
		t.Fatalf("P23.1: New(%v) = %v, %d", c, g, e)
	}
	h := &held{T: t, cycle: g, plain: newPlain(c)}
	h.look("new")
	for thread := range live {
		h.attach(thread)
	}
	return h
}

// look asks all that is told, and changes nothing.
func (h *held) look(when string) {
	h.Helper()
	g, m := h.cycle, h.plain
	if got := g.Phase(); got != m.phase {
		h.Fatalf("P23.1: %s: Phase() = %d; want %d", when, got, m.phase)
	}
	if got := g.Cycles(); got != m.cycles {
		h.Fatalf("P23.2: %s: Cycles() = %d; want %d", when, got, m.cycles)
	}
	if got := g.Units(); got != m.units {
		h.Fatalf("P23.2: %s: Units() = %d; want %d", when, got, m.units)
	}
	if got := g.At(); got != m.next {
		h.Fatalf("P23.2: %s: At() = %d; want %d", when, got, m.next)
	}
	if got, want := g.Free(), m.freePages(); got != want {
		h.Fatalf("P23.2: %s: of %v, Free() = %d; want %d", when, m.kinds, got, want)
	}
	if got := g.Global(); got != m.global {
		h.Fatalf("P23.2: %s: Global() = %d; want %d", when, got, m.global)
	}
	h.lookThreads(when)
	h.lookObjects(when)
}

// lookThreads asks who is live, and what each one holds.
func (h *held) lookThreads(when string) {
	h.Helper()
	for thread := -1; thread <= len(h.plain.threads)+1; thread++ {
		if got, want := h.cycle.Live(thread), h.plain.is(thread); got != want {
			h.Fatalf("P23.1: %s: Live(%d) = %t; want %t", when, thread, got, want)
		}
		if got, want := h.cycle.Roots(thread), h.plain.roots(thread); !slices.Equal(got, want) {
			h.Fatalf("P23.2: %s: Roots(%d) = %v; want %v", when, thread, got, want)
		}
	}
}

// lookObjects asks where objects are, what they have, and what is marked.
func (h *held) lookObjects(when string) {
	h.Helper()
	m := h.plain
	if got, want := h.cycle.Objects(), m.stood(); !slices.Equal(got, want) {
		h.Fatalf("P23.2: %s, in phase %d: Objects() = %v; want %v", when, m.phase, got, want)
	}
	for a := -1; a <= len(m.kinds)*pageWords; a++ {
		stands := a >= 0 && a < addresses && m.at[a] != nil
		if got, want := h.cycle.Marked(a), stands && m.marks[a]; got != want {
			h.Fatalf("P23.2: %s, in phase %d: Marked(%d) = %t; want %t", when, m.phase, a, got, want)
		}
		if stands {
			h.lookAt(a, when)
		}
	}
}

// lookAt asks all that is told of the object at a.
func (h *held) lookAt(a int, when string) {
	h.Helper()
	o := h.plain.at[a]
	if got := h.cycle.Fields(a); got != len(o.fields) {
		h.Fatalf("P23.2: %s: Fields(%d) = %d; want %d", when, a, got, len(o.fields))
	}
	if got := h.cycle.Serial(a); got != o.serial {
		h.Fatalf("P23.2: %s: Serial(%d) = %d; want %d", when, a, got, o.serial)
	}
	for i, want := range o.fields {
		if got, ok := h.cycle.Read(a, i); got != want || !ok {
			h.Fatalf("P23.2: %s: Read(%d, %d) = %v, %t; want %v", when, a, i, got, ok, want)
		}
	}
}

// behind looks behind a call, unless it is one of those between.
func (h *held) behind(call string) {
	h.Helper()
	if !h.quiet {
		h.look("behind " + call)
	}
}

// answered holds what a call answers with true or false.
func (h *held) answered(call string, got bool, want bool) bool {
	h.Helper()
	if got != want {
		h.Fatalf("P23: in phase %d: %s = %t; want %t", h.cycle.Phase(), call, got, want)
	}
	h.behind(call)
	return got
}

// called is a call as a text.
func called(name string, numbers ...int) string {
	text := name + "("
	for i, n := range numbers {
		if i > 0 {
			text += ", "
		}
		text += strconv.Itoa(n)
	}
	return text + ")"
}

// Each of these calls the collector, and wants what the chapter says.

func (h *held) begin() bool {
	h.Helper()
	return h.answered("Begin()", h.cycle.Begin(), h.plain.start())
}

func (h *held) attach(thread int) bool {
	h.Helper()
	return h.answered(called("Attach", thread), h.cycle.Attach(thread), h.plain.attach(thread))
}

func (h *held) detach(thread int) bool {
	h.Helper()
	return h.answered(called("Detach", thread), h.cycle.Detach(thread), h.plain.detach(thread))
}

func (h *held) poll(threads ...int) bool {
	h.Helper()
	all := true
	for _, thread := range threads {
		all = h.answered(called("Poll", thread), h.cycle.Poll(thread), h.plain.poll(thread)) && all
	}
	return all
}

func (h *held) unit() bool {
	h.Helper()
	return h.answered("Unit()", h.cycle.Unit(), h.plain.unit())
}

// units does them until there is none, or so many.
func (h *held) units(n int) int {
	h.Helper()
	done := 0
	for done < n && h.unit() {
		done++
	}
	return done
}

func (h *held) push(thread int, v api.Value) bool {
	h.Helper()
	return h.answered(called("Push", thread, v.Kind, int(v.N)), h.cycle.Push(thread, v), h.plain.push(thread, v))
}

// hold pushes references to these, which there must be room for.
func (h *held) hold(thread int, l ...int) {
	h.Helper()
	for _, a := range l {
		if !h.push(thread, ref(a)) {
			h.Fatalf("thread %d can't hold a reference to %d", thread, a)
		}
	}
}

func (h *held) pop(thread int) (api.Value, bool) {
	h.Helper()
	want, wantOk := h.plain.pop(thread)
	got, ok := h.cycle.Pop(thread)
	if got != want || ok != wantOk {
		h.Fatalf("P23.2: Pop(%d) = %v, %t; want %v, %t", thread, got, ok, want, wantOk)
	}
	h.behind("Pop")
	return got, ok
}

// drop pops all that a thread holds.
func (h *held) drop(thread int) {
	h.Helper()
	for range h.plain.roots(thread) {
		h.pop(thread)
	}
}

func (h *held) write(thread int, a int, i int, v api.Value) bool {
	h.Helper()
	return h.answered(called("Write", thread, a, i, v.Kind, int(v.N)), h.cycle.Write(thread, a, i, v), h.plain.write(thread, a, i, v))
}

// set writes what may be written.
func (h *held) set(thread int, a int, i int, v api.Value) {
	h.Helper()
	if !h.write(thread, a, i, v) {
		h.Fatalf("thread %d can't write %v over field %d at %d", thread, v, i, a)
	}
}

// fast makes an object with n fields, and answers where; -1: it can't be.
func (h *held) fast(thread int, n int) int {
	h.Helper()
	want := -1
	if h.plain.is(thread) && n >= 0 && n <= mostFields && h.plain.fits(thread, n) {
		want = h.plain.make(thread, n)
	}
	got, ok := h.cycle.Fast(thread, n)
	if ok != (want >= 0) || ok && got != want || !ok && got != 0 {
		h.Fatalf("P23.2: Fast(%d, %d) = %d, %t; want %d", thread, n, got, ok, want)
	}
	h.behind("Fast")
	return want
}

// slow makes an object with n fields, and answers where; -1: it can't be.
func (h *held) slow(thread int, n int) int {
	h.Helper()
	want, wantErr := -1, api.ErrRange
	if h.plain.is(thread) && n >= 0 && n <= mostFields {
		want, wantErr = h.plain.make(thread, n), api.ErrFull
	}
	if want >= 0 {
		wantErr = api.OK
	}
	got, err := h.cycle.Slow(thread, n)
	if err != wantErr || err == api.OK && got != want || err != api.OK && got != 0 {
		h.Fatalf("P23.2: of %v, Slow(%d, %d) = %d, %d; want %d, %d", h.plain.kinds, thread, n, got, err, want, wantErr)
	}
	h.behind("Slow")
	return want
}

// make makes an object with these fields; there must be room.
func (h *held) make(thread int, fields ...api.Value) int {
	h.Helper()
	a := h.slow(thread, len(fields))
	if a < 0 {
		h.Fatalf("no room for an object with %d fields: %v", len(fields), h.plain.kinds)
	}
	for i, v := range fields {
		if v != (api.Value{}) {
			h.set(thread, a, i, v)
		}
	}
	return a
}

// to leads an idle one to that phase, where there are live threads, and no buffer keeps it from being swept.
func (h *held) to(phase int) {
	h.Helper()
	if phase != idle {
		h.begin()
	}
	for h.plain.phase < phase {
		if h.plain.phase == tracing {
			h.units(greatest)
			continue
		}
		h.poll(h.plain.behind()...)
	}
	if h.plain.phase != phase {
		h.Fatalf("it is phase %d; want %d", h.plain.phase, phase)
	}
}

// finish ends the cycle that is on, by polls of all live threads and units alone, and answers how many rounds that took.
func (h *held) finish() int {
	h.Helper()
	rounds := 0
	for h.plain.phase != idle {
		// A round of all phases marks an object more, or is the last one; how many there are is no more than how many cells there can be.
		if rounds++; rounds > 3*addresses {
			h.Fatalf("P23.1: the cycle does not end, in phase %d", h.plain.phase)
		}
		h.poll(h.plain.live()...)
		h.units(greatest)
	}
	h.look("behind a cycle")
	if marked := h.plain.marked(); len(marked) > 0 {
		h.Fatalf("P23.4: behind a cycle %v are marked", marked)
	}
	return rounds
}

// whole is a cycle from its begin to its end.
func (h *held) whole() {
	h.Helper()
	h.begin()
	h.finish()
}

// kept wants that there are just these objects besides the global one.
func (h *held) kept(what string, l ...int) {
	h.Helper()
	want := append([]int{h.cycle.Global()}, l...)
	slices.Sort(want)
	if got := h.cycle.Objects(); !slices.Equal(got, want) {
		h.Fatalf("P23: %s: objects are at %v; want %v", what, got, want)
	}
}

// refill makes objects of each class until there is no room, each thread's from its own pages first: where they are made tells which cells and pages are free, in which order, and whose.
func (h *held) refill() {
	h.Helper()
	h.quiet = true
	for thread := range h.plain.threads {
		if !h.plain.is(thread) {
			h.attach(thread)
		}
		for _, n := range []int{1, 3, 7, 15} {
			for h.fast(thread, n) >= 0 {
			}
		}
	}
	for _, n := range []int{15, 7, 3, 1, 31} {
		for h.slow(0, n) >= 0 {
		}
	}
	h.look("filled anew")
}

// stage is where a cycle may stand, with three live threads, of which the last one has not confirmed in phases 1, 2 and 4.
type stage struct {
	phase int
	// Who of threads 0 and 1 has confirmed, in phases 1, 2 and 4.
	agreed []int
	// How many units were done, in phases 3 and 5.
	done int
}

// stages are all of them, for so many pages.
func stages(pages int) []stage {
	l := []stage{{phase: idle}}
	for _, agreed := range [][]int{nil, {0}, {1}, {0, 1}} {
		for _, phase := range []int{on, scan, drain} {
			l = append(l, stage{phase: phase, agreed: agreed})
		}
	}
	for done := range 4 {
		l = append(l, stage{phase: tracing, done: done})
	}
	for done := range pages {
		l = append(l, stage{phase: sweeping, done: done})
	}
	return l
}

// reach leads an idle one to that stage.
func (h *held) reach(s stage) {
	h.Helper()
	quiet := h.quiet
	h.quiet = true
	h.to(s.phase)
	h.poll(s.agreed...)
	h.units(s.done)
	h.quiet = quiet
	if h.plain.phase != s.phase {
		h.Fatalf("not at %v, but in phase %d", s, h.plain.phase)
	}
	h.look("there")
}

// rule tells numbers one behind the other, always the same ones.
type rule uint64

// below is a number from 0 to n - 1.
func (r *rule) below(n int) int {
	*r = *r*6364136223846793005 + 1442695040888963407
	return int(uint64(*r)>>33) % n
}

// one of those that stand in l, of which there must be some.
func (r *rule) one(l []int) int {
	return l[r.below(len(l))]
}
