package epoch_test

import (
	"math"
	"slices"
	"testing"

	"scutage/epoch"
)

const (
	least    = math.MinInt64
	greatest = math.MaxInt64
	// most is how many threads there may be.
	most = 8
)

// far are numbers that no thread has: such as are one when cut short, and as far out as can be.
func far() []int {
	l := []int{-3, -7, -8, -9, -16, -64, -128, -255, -256, 10, 15, 16, 17, 23, 24, 31, 32, 63, 64, 71, 127, 128, 129, 255, 256, 257, 263, 264,
		1 << 16, 1<<16 + 1, 1<<31 - 1, 1 << 31, -1 << 31, -1<<31 + 1, 1 << 32, 1<<32 + 1, 1<<32 + 7, 1<<32 + 8, -1 << 32, -1<<32 + 1,
		1 << 58, 1<<58 + 1, 1 << 60, 1<<61 + 1, 1 << 62, 1<<62 + 1, -1 << 62, -1<<62 + 1}
	for n := range 10 {
		l = append(l, greatest-n, least+n)
	}
	return l
}

// near are all threads, and two numbers beyond each end.
func near() []int {
	var l []int
	for n := -2; n <= most+1; n++ {
		l = append(l, n)
	}
	return l
}

// plain is what a registry must be: a book with a line for each live thread.
type plain struct {
	// None: New did not make it, and nothing can be told of it.
	none    bool
	threads int
	epoch   int
	// By thread, what each live one confirmed.
	book map[int]int
}

func newPlain(n int) *plain {
	return &plain{threads: n, book: map[int]int{}}
}

func (m *plain) clone() *plain {
	c := *m
	c.book = map[int]int{}
	for thread, confirmed := range m.book {
		c.book[thread] = confirmed
	}
	return &c
}

func (m *plain) live(thread int) bool {
	_, ok := m.book[thread]
	return ok
}

func (m *plain) of(thread int) int {
	if !m.live(thread) {
		return -1
	}
	return m.book[thread]
}

func (m *plain) all() []int {
	var l []int
	for thread := range m.book {
		l = append(l, thread)
	}
	slices.Sort(l)
	return l
}

func (m *plain) behind() []int {
	var l []int
	for _, thread := range m.all() {
		if m.book[thread] != m.epoch {
			l = append(l, thread)
		}
	}
	return l
}

func (m *plain) least() int {
	var l []int
	for _, confirmed := range m.book {
		l = append(l, confirmed)
	}
	if len(l) == 0 {
		return m.epoch
	}
	return slices.Min(l)
}

func (m *plain) attach(thread int) bool {
	if m.none || thread < 0 || thread >= m.threads || m.live(thread) {
		return false
	}
	m.book[thread] = m.epoch
	return true
}

func (m *plain) detach(thread int) bool {
	ok := m.live(thread)
	delete(m.book, thread)
	return ok
}

func (m *plain) raise() int {
	if !m.none {
		m.epoch++
	}
	return m.epoch
}

func (m *plain) confirm(thread int) bool {
	if !slices.Contains(m.behind(), thread) {
		return false
	}
	m.book[thread] = m.epoch
	return true
}

// held is a registry, and the plain book that it is held against.
type held struct {
	registry *epoch.Registry
	plain    *plain
	// Between the calls that are looked at, only answers are held.
	quiet bool
}

func newHeld(n int) *held {
	return &held{registry: epoch.New(n), plain: newPlain(n)}
}

// checkThread asks all that tells of one thread.
func (h *held) checkThread(t *testing.T, thread int, when string) {
	t.Helper()
	if got, want := h.registry.Live(thread), h.plain.live(thread); got != want {
		t.Fatalf("P15.1: %s: of %v at %d, Live(%d) = %t; want %t", when, h.plain.book, h.plain.epoch, thread, got, want)
	}
	if got, want := h.registry.Of(thread), h.plain.of(thread); got != want {
		t.Fatalf("P15.1: %s: of %v at %d, Of(%d) = %d; want %d", when, h.plain.book, h.plain.epoch, thread, got, want)
	}
}

// checkAhead asks whether anybody is ahead, by what the registry tells alone.
func (h *held) checkAhead(t *testing.T, when string) {
	t.Helper()
	now := h.registry.Epoch()
	for _, thread := range near() {
		if got := h.registry.Of(thread); got > now {
			t.Fatalf("P15.2: %s: Of(%d) = %d, ahead of Epoch() = %d", when, thread, got, now)
		}
	}
	if got := h.registry.Least(); got > now {
		t.Fatalf("P15.2: %s: Least() = %d, ahead of Epoch() = %d", when, got, now)
	}
}

// check asks all that tells, of each thread, and beyond each end.
func (h *held) check(t *testing.T, when string) {
	t.Helper()
	book := h.plain.book
	if got, want := h.registry.Epoch(), h.plain.epoch; got != want {
		t.Fatalf("P15.1: %s: of %v, Epoch() = %d; want %d", when, book, got, want)
	}
	if got, want := h.registry.All(), h.plain.all(); !slices.Equal(got, want) {
		t.Fatalf("P15.1: %s: of %v, All() = %v; want %v", when, book, got, want)
	}
	behind := h.plain.behind()
	if got := h.registry.Behind(); !slices.Equal(got, behind) {
		t.Fatalf("P15.1: %s: of %v at %d, Behind() = %v; want %v", when, book, h.plain.epoch, got, behind)
	}
	if got, want := h.registry.Agreed(), len(behind) == 0; got != want {
		t.Fatalf("P15.1: %s: of %v at %d, Agreed() = %t; want %t", when, book, h.plain.epoch, got, want)
	}
	if got, want := h.registry.Least(), h.plain.least(); got != want {
		t.Fatalf("P15.1: %s: of %v at %d, Least() = %d; want %d", when, book, h.plain.epoch, got, want)
	}
	for _, thread := range near() {
		h.checkThread(t, thread, when)
	}
	h.checkAhead(t, when)
}

// checkFar asks of threads that no registry has.
func (h *held) checkFar(t *testing.T, when string) {
	t.Helper()
	for _, thread := range far() {
		h.checkThread(t, thread, when)
	}
}

// behind looks at all behind a call, unless it is one of those between.
func (h *held) behind(t *testing.T, call string) {
	t.Helper()
	if !h.quiet {
		h.check(t, "behind "+call)
	}
}

// Each of these calls the registry, and wants what the chapter says of such a one.

func (h *held) attach(t *testing.T, thread int) bool {
	t.Helper()
	want := h.plain.attach(thread)
	got := h.registry.Attach(thread)
	if got != want {
		t.Fatalf("P15.1: of %d threads, Attach(%d) = %t; want %t; live then: %v", h.plain.threads, thread, got, want, h.plain.all())
	}
	h.behind(t, "Attach")
	return got
}

func (h *held) detach(t *testing.T, thread int) bool {
	t.Helper()
	want := h.plain.detach(thread)
	got := h.registry.Detach(thread)
	if got != want {
		t.Fatalf("P15.1: Detach(%d) = %t; want %t; live then: %v", thread, got, want, h.plain.all())
	}
	h.behind(t, "Detach")
	return got
}

func (h *held) raise(t *testing.T) int {
	t.Helper()
	want := h.plain.raise()
	got := h.registry.Raise()
	if got != want {
		t.Fatalf("P15.1: Raise() = %d; want %d", got, want)
	}
	h.behind(t, "Raise")
	return got
}

func (h *held) confirm(t *testing.T, thread int) bool {
	t.Helper()
	want := h.plain.confirm(thread)
	got := h.registry.Confirm(thread)
	if got != want {
		t.Fatalf("P15.1: at %d, Confirm(%d) = %t; want %t; confirmed then: %v", h.plain.epoch, thread, got, want, h.plain.book)
	}
	h.behind(t, "Confirm")
	return got
}

// clone is a clone, held against a book of its own.
func (h *held) clone(t *testing.T) *held {
	t.Helper()
	c := h.registry.Clone()
	if c == nil {
		t.Fatalf("P15.1: of New(%d), Clone() = nil", h.plain.threads)
	}
	return &held{registry: c, plain: h.plain.clone(), quiet: h.quiet}
}

// The ways to lay a registry.
const (
	quiet   = iota // none live, at epoch 0
	raised         // none live, at a later one
	first          // all live, at epoch 0
	agreed         // all live, at a later one, none behind
	late           // all live, all behind by several
	some           // each second one live, some of them behind by one
	ragged         // all live, each behind by another number
	falling        // likewise, the other way about
	gone           // all were live, each third one is still, and is behind
	ways           // how many there are
)

// raises raises n times.
func (h *held) raises(t *testing.T, n int) {
	t.Helper()
	for range n {
		h.raise(t)
	}
}

// attachAll makes each step-th thread come, from from on.
func (h *held) attachAll(t *testing.T, from int, step int) {
	t.Helper()
	for thread := from; thread < h.plain.threads; thread += step {
		h.attach(t, thread)
	}
}

// laid is a registry of so many threads, made by the calls alone.
func laid(t *testing.T, n int, how int) *held {
	t.Helper()
	h := newHeld(n)
	h.quiet = true
	switch how {
	case raised:
		h.raises(t, 3)
	case first:
		h.attachAll(t, 0, 1)
	case agreed:
		h.raises(t, 2)
		h.attachAll(t, 0, 1)
	case late:
		h.attachAll(t, 0, 1)
		h.raises(t, 4)
	case some:
		h.attachAll(t, 0, 4)
		h.raise(t)
		h.attachAll(t, 2, 4)
	case ragged:
		for thread := range n {
			h.attach(t, thread)
			h.raise(t)
		}
	case falling:
		h.attachAll(t, 0, 1)
		for thread := n - 1; thread >= 0; thread-- {
			h.confirm(t, thread)
			h.raise(t)
		}
	case gone:
		h.attachAll(t, 0, 1)
		h.raise(t)
		for thread := range n {
			if thread%3 != 1 {
				h.detach(t, thread)
			}
		}
	}
	h.quiet = false
	h.check(t, "laid")
	return h
}

// many are registries of each number of threads, laid in each way.
func many(t *testing.T) []*held {
	t.Helper()
	var l []*held
	for n := range most + 1 {
		for how := range ways {
			l = append(l, laid(t, n, how))
		}
	}
	return l
}
