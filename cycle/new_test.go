package cycle_test

import (
	"slices"
	"testing"

	"scutage/api"
	"scutage/cycle"
)

// TestExample: the chapter's: without live threads Begin leads to 3 at once.
func TestExample(t *testing.T) {
	g, e := cycle.New(usual(4, 2))
	if e != api.OK || !g.Begin() || g.Phase() != 3 {
		t.Error("P23.1: without live threads Begin does not lead to 3 at once")
	}
}

// TestWrittenOut: a cycle worked out by hand from the chapter.
func TestWrittenOut(t *testing.T) {
	g, e := cycle.New(roomy(5, 2, 2, 2))
	if e != api.OK {
		t.Fatal("P23.1: New:", e)
	}
	tell := func(when string, phase int, units int, at int, free int, objects []int, marked ...int) {
		t.Helper()
		if g.Phase() != phase || g.Units() != units || g.At() != at || g.Free() != free {
			t.Errorf("P23: %s: Phase() = %d, Units() = %d, At() = %d, Free() = %d; want %d, %d, %d, %d", when, g.Phase(), g.Units(), g.At(), g.Free(), phase, units, at, free)
		}
		if !slices.Equal(g.Objects(), objects) {
			t.Errorf("P23: %s: Objects() = %v; want %v", when, g.Objects(), objects)
		}
		for _, a := range objects {
			if g.Marked(a) != slices.Contains(marked, a) {
				t.Errorf("P23: %s: Marked(%d) = %t", when, a, g.Marked(a))
			}
		}
	}
	yes := func(call string, got bool) {
		t.Helper()
		if !got {
			t.Errorf("P23: %s is false", call)
		}
	}
	no := func(call string, got bool) {
		t.Helper()
		if got {
			t.Errorf("P23: %s is true", call)
		}
	}
	made := func(thread int, n int, want int) {
		t.Helper()
		if a, e := g.Slow(thread, n); a != want || e != api.OK {
			t.Fatalf("P23.2: Slow(%d, %d) = %d, %d; want %d", thread, n, a, e, want)
		}
	}
	// The global object stands alone in page 0.
	tell("new", 0, 0, 5, 4, []int{0})
	yes("Attach 0", g.Attach(0))
	yes("Attach 1", g.Attach(1))
	made(0, 7, 32)
	made(0, 7, 40)
	made(1, 3, 64)
	made(1, 3, 68)
	made(1, 40, 96)
	yes("Push 0", g.Push(0, ref(32)))
	yes("Push 1", g.Push(1, ref(64)))
	yes("Write 32", g.Write(0, 32, 6, ref(40)))
	yes("Write 64", g.Write(1, 64, 0, ref(68)))
	yes("Write 68", g.Write(1, 68, 2, ref(96)))
	tell("laid", 0, 0, 5, 0, []int{0, 32, 40, 64, 68, 96})
	yes("Begin", g.Begin())
	no("Begin", g.Begin())
	tell("begun", 1, 0, 5, 0, []int{0, 32, 40, 64, 68, 96})
	yes("Poll 0", g.Poll(0))
	no("Poll 0", g.Poll(0))
	tell("one has confirmed", 1, 0, 5, 0, []int{0, 32, 40, 64, 68, 96})
	yes("Poll 1", g.Poll(1))
	tell("both have", 2, 0, 5, 0, []int{0, 32, 40, 64, 68, 96}, 0)
	yes("Poll 1", g.Poll(1))
	tell("one was gone through", 2, 0, 5, 0, []int{0, 32, 40, 64, 68, 96}, 0, 64)
	// There was room for two: this one is lost.
	yes("Poll 0", g.Poll(0))
	tell("both were", 3, 0, 5, 0, []int{0, 32, 40, 64, 68, 96}, 0, 32, 64)
	// Object 64's fields 0 and 1: object 68 is lost, as 64 waits again, from field 2 on.
	yes("Unit", g.Unit())
	tell("the first unit", 3, 1, 5, 0, []int{0, 32, 40, 64, 68, 96}, 0, 32, 64, 68)
	// What refers to 96 is overwritten, ahead of its turn.
	yes("Write 68", g.Write(0, 68, 2, num(5)))
	// Object 64's field 2, two units for the global object's four fields, and page 0 is looked at, as there was a loss.
	for range 4 {
		yes("Unit", g.Unit())
	}
	tell("the fifth unit", 3, 5, 5, 0, []int{0, 32, 40, 64, 68, 96}, 0, 32, 64, 68)
	// In page 1 object 40 is found, and waits.
	yes("Unit", g.Unit())
	tell("the sixth unit", 3, 6, 5, 0, []int{0, 32, 40, 64, 68, 96}, 0, 32, 40, 64, 68)
	// Four units for object 40's seven fields, three for the other pages.
	for range 7 {
		yes("Unit", g.Unit())
	}
	tell("the last unit", 3, 13, 5, 0, []int{0, 32, 40, 64, 68, 96}, 0, 32, 40, 64, 68)
	no("Unit", g.Unit())
	tell("nothing to do", 4, 13, 5, 0, []int{0, 32, 40, 64, 68, 96}, 0, 32, 40, 64, 68)
	no("Unit", g.Unit())
	yes("Poll 1", g.Poll(1))
	tell("one has handed over nothing", 4, 13, 5, 0, []int{0, 32, 40, 64, 68, 96}, 0, 32, 40, 64, 68)
	yes("Poll 0", g.Poll(0))
	tell("the other one something", 3, 13, 5, 0, []int{0, 32, 40, 64, 68, 96}, 0, 32, 40, 64, 68, 96)
	// Its 40 fields are twenty units.
	for range 20 {
		yes("Unit", g.Unit())
	}
	no("Unit", g.Unit())
	yes("Poll 0", g.Poll(0))
	yes("Poll 1", g.Poll(1))
	tell("drained", 5, 33, 0, 0, []int{0, 32, 40, 64, 68, 96}, 0, 32, 40, 64, 68, 96)
	no("Poll 1", g.Poll(1))
	for range 4 {
		yes("Unit", g.Unit())
	}
	tell("four pages", 5, 37, 4, 0, []int{0, 32, 40, 64, 68, 96})
	if g.Cycles() != 0 {
		t.Error("P23.2: Cycles() is not 0 while the first one is on")
	}
	yes("Unit", g.Unit())
	tell("five pages", 0, 38, 5, 0, []int{0, 32, 40, 64, 68, 96})
	no("Unit", g.Unit())
	if g.Cycles() != 1 || g.Units() != 38 {
		t.Errorf("P23.2: behind one, Cycles() = %d, Units() = %d; want 1, 38", g.Cycles(), g.Units())
	}
	// In the next one 96 is gone.
	yes("Begin", g.Begin())
	for g.Phase() != 0 {
		g.Poll(0)
		g.Poll(1)
		g.Unit()
	}
	tell("the second one", 0, g.Units(), 5, 2, []int{0, 32, 40, 64, 68})
	if v, ok := g.Read(68, 2); v != num(5) || !ok || g.Serial(68) != 4 || g.Fields(40) != 7 || g.Cycles() != 2 {
		t.Errorf("P23.2: Read(68, 2) = %v, %t, Serial(68) = %d, Fields(40) = %d, Cycles() = %d", v, ok, g.Serial(68), g.Fields(40), g.Cycles())
	}
}

// field is a config's field at that place, from 1 on.
func field(c *api.Config, place int) *int {
	return []*int{nil, &c.Pages, &c.Threads, &c.Window, &c.Quantum, &c.Target, &c.Cap, &c.Tax, &c.Chunk, &c.Stack, &c.Trigger}[place]
}

// ends are the least and the greatest number that each field may be, as chapter 2 writes them out.
func ends() [11][2]int {
	return [11][2]int{{}, {2, 64}, {1, 8}, {1, 64}, {1, 16}, {0, 1000}, {0, 65535}, {0, 64}, {1, 16}, {1, 256}, {0, 64}}
}

// ample is a config of which each field may be any number, but for Target.
func ample() api.Config {
	return api.Config{Pages: 3, Threads: 2, Window: 64, Quantum: 1, Target: 0, Cap: 9, Tax: 3, Chunk: 3, Stack: 3, Trigger: 2}
}

// refused wants that there is no collector of that config.
func refused(t *testing.T, c api.Config) {
	t.Helper()
	if g, e := cycle.New(c); g != nil || e != api.ErrConfig {
		t.Fatalf("P23.1: New(%v) = %v, %d; want nil, %d", c, g, e, api.ErrConfig)
	}
}

// TestNewWrong: configs that may not be, for each field below it and above it.
func TestNewWrong(t *testing.T) {
	refused(t, api.Config{})
	for place := 1; place <= 10; place++ {
		lo, hi := ends()[place][0], ends()[place][1]
		for _, n := range []int{lo - 1, lo - 2, lo - 100, hi + 1, hi + 2, hi + 100, lo - 1<<32, hi + 1<<32, least, greatest} {
			c := ample()
			*field(&c, place) = n
			refused(t, c)
			// Another one is wrong besides.
			*field(&c, place%10+1) = -1
			refused(t, c)
		}
	}
	// A window that leaves too little.
	for _, c := range []api.Config{
		{Pages: 4, Threads: 1, Window: 1, Quantum: 1, Target: 1, Chunk: 1, Stack: 1},
		{Pages: 4, Threads: 1, Window: 10, Quantum: 3, Target: 701, Chunk: 1, Stack: 1},
		{Pages: 4, Threads: 1, Window: 64, Quantum: 1, Target: 985, Chunk: 1, Stack: 1},
		{Pages: 4, Threads: 1, Window: 64, Quantum: 1, Target: 1000, Chunk: 1, Stack: 1},
		{Pages: 4, Threads: 1, Window: 15, Quantum: 16, Target: 0, Chunk: 1, Stack: 1},
	} {
		refused(t, c)
	}
}

// fresh wants a new collector of that config to be as the chapter says.
func fresh(t *testing.T, c api.Config) *held {
	t.Helper()
	g, e := cycle.New(c)
	if g == nil || e != api.OK {
		t.Fatalf("P23.1: New(%v) = %v, %d", c, g, e)
	}
	if g.Phase() != 0 || g.Cycles() != 0 || g.Units() != 0 || g.At() != c.Pages || g.Free() != c.Pages-1 {
		t.Fatalf("P23.1: of New(%v): Phase() = %d, Cycles() = %d, Units() = %d, At() = %d, Free() = %d", c, g.Phase(), g.Cycles(), g.Units(), g.At(), g.Free())
	}
	a := g.Global()
	if !slices.Equal(g.Objects(), []int{a}) || g.Fields(a) != 4 || g.Serial(a) != 0 || g.Marked(a) {
		t.Fatalf("P23.1: of New(%v): Global() = %d, Objects() = %v, Fields = %d, Serial = %d, Marked = %t", c, a, g.Objects(), g.Fields(a), g.Serial(a), g.Marked(a))
	}
	for i := range 4 {
		if v, ok := g.Read(a, i); v != (api.Value{}) || !ok {
			t.Fatalf("P23.1: of New(%v): Read(%d, %d) = %v, %t", c, a, i, v, ok)
		}
	}
	for thread := -1; thread <= 9; thread++ {
		if g.Live(thread) || len(g.Roots(thread)) != 0 || g.Poll(thread) || g.Detach(thread) {
			t.Fatalf("P23.1: of New(%v): thread %d is live", c, thread)
		}
	}
	if g.Unit() {
		t.Fatalf("P23.1: of New(%v): there is a unit", c)
	}
	return newHeld(t, c, 0)
}

// lives is a short life of a collector of any config: as many threads, pages, entries and fields at once as it was told.
func (h *held) lives() {
	h.Helper()
	h.quiet = true
	for thread := range h.plain.threads {
		h.attach(thread)
	}
	if h.attach(len(h.plain.threads)) || h.attach(-1) {
		h.Fatal("P23.1: there are more threads than the config has")
	}
	last := len(h.plain.threads) - 1
	// A chain of one object in each page, each with many fields.
	head := h.cycle.Global()
	for range len(h.plain.kinds) - 1 {
		a := h.slow(last, 20)
		if a < 0 {
			h.Fatal("P23.2: there are fewer pages than the config has")
		}
		i := 3
		if head != h.cycle.Global() {
			i = 19
		}
		h.set(last, head, i, ref(a))
		h.set(last, a, 18, ref(a))
		head = a
	}
	if h.cycle.Free() != 0 || h.slow(0, 20) >= 0 {
		h.Fatal("P23.2: there are more pages than the config has")
	}
	h.look("full")
	stood := len(h.cycle.Objects())
	h.whole()
	if got := len(h.cycle.Objects()); got != stood {
		h.Fatalf("P23.3: of %d objects that can be reached there are %d", stood, got)
	}
	h.set(0, h.cycle.Global(), 3, api.Value{})
	h.whole()
	h.kept("nothing else can be reached")
	h.refill()
}

// TestNewEnds: configs that may be, each field at its ends, and all of them.
func TestNewEnds(t *testing.T) {
	for place := 1; place <= 10; place++ {
		for _, n := range ends()[place] {
			c := ample()
			*field(&c, place) = n
			if place == 5 && n != 0 {
				// Of the window's 64 ticks one must be left.
				c.Target = 984
			}
			fresh(t, c).lives()
		}
	}
	fresh(t, api.Config{Pages: 2, Threads: 1, Window: 1, Quantum: 1, Chunk: 1, Stack: 1}).lives()
	fresh(t, api.Config{Pages: 64, Threads: 8, Window: 64, Quantum: 16, Target: 750, Cap: 65535, Tax: 64, Chunk: 16, Stack: 256, Trigger: 64}).lives()
}

// TestPages: each number of pages, each number of threads, each chunk, and some rooms.
func TestPages(t *testing.T) {
	for n := 2; n <= 64; n++ {
		fresh(t, roomy(n, 1+n%8, 1+n%16, 1+n%5)).lives()
	}
}

// TestApart: what one collector is told the others don't know.
func TestApart(t *testing.T) {
	c := usual(4, 2)
	one, two := newHeld(t, c, 1), newHeld(t, c, 2)
	a := one.make(0, num(1), num(2))
	one.hold(0, a)
	two.look("another one has an object")
	two.begin()
	two.poll(0)
	one.look("another one is on")
	one.whole()
	two.look("another one has had a cycle")
	two.finish()
	two.kept("of its own")
	one.kept("of its own", a)
}

// told is all that a collector tells beside values.
type told struct {
	phase, global, at, free, cycles, units int
}

func ask(g *cycle.Collector) told {
	return told{g.Phase(), g.Global(), g.At(), g.Free(), g.Cycles(), g.Units()}
}

// TestNone: of nil, or one that New did not make: 0, false, zero, nothing, -1, ErrState, again and again.
func TestNone(t *testing.T) {
	for name, g := range map[string]*cycle.Collector{"nil": nil, "one that New did not make": {}} {
		numbers := append(far(), 0, 1, 2, 3, 7, 8, 31, 127, 128)
		for range 2 {
			if g.Begin() || g.Unit() {
				t.Fatalf("P23.1: of %s a cycle begins, or there is a unit", name)
			}
			for _, n := range numbers {
				none(t, name, g, n)
			}
			x := ask(g)
			// Whether the address of no global object is 0 or -1 the chapter leaves open.
			x.global = 0
			if x != (told{}) || len(g.Objects()) != 0 {
				t.Fatalf("P23: of %s there is told %v, %v", name, x, g.Objects())
			}
		}
	}
}

// none wants that nothing can be had from g.
func none(t *testing.T, name string, g *cycle.Collector, n int) {
	t.Helper()
	if g.Attach(n) || g.Live(n) || g.Poll(n) || g.Detach(n) {
		t.Fatalf("P23.1: of %s, there is a thread %d", name, n)
	}
	for _, v := range append(wrong(), api.Value{}, num(1), ref(0), ref(n)) {
		if g.Push(n, v) || g.Write(n, 0, 0, v) || g.Write(0, n, 0, v) || g.Write(0, 0, n, v) {
			t.Fatalf("P23.2: of %s, %v is pushed or written", name, v)
		}
	}
	if v, ok := g.Pop(n); v != (api.Value{}) || ok || len(g.Roots(n)) != 0 {
		t.Fatalf("P23.2: of %s, thread %d holds something", name, n)
	}
	for _, m := range []int{-1, 0, 1, 15, 16, 127, 128, least, greatest} {
		if a, ok := g.Fast(n, m); a != 0 || ok {
			t.Fatalf("P23.2: of %s, Fast(%d, %d) = %d, %t", name, n, m, a, ok)
		}
		if a, e := g.Slow(n, m); a != 0 || e != api.ErrState {
			t.Fatalf("P23.2: of %s, Slow(%d, %d) = %d, %d", name, n, m, a, e)
		}
		if v, ok := g.Read(n, m); v != (api.Value{}) || ok {
			t.Fatalf("P23.2: of %s, Read(%d, %d) = %v, %t", name, n, m, v, ok)
		}
	}
	if g.Fields(n) != -1 || g.Serial(n) != -1 || g.Marked(n) {
		t.Fatalf("P23.2: of %s, Fields(%d) = %d, Serial(%d) = %d, Marked(%d) = %t", name, n, g.Fields(n), n, g.Serial(n), n, g.Marked(n))
	}
}
