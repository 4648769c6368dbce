package cache_test

import (
	"math"
	"slices"
	"testing"

	"scutage/cache"
)

const (
	least    = math.MinInt64
	greatest = math.MaxInt64
	threads  = 9
	smalls   = 4
	pages    = 64
)

// far are numbers that no thread, class, page or number of threads has: such as are one when cut short, and as far out as can be.
func far() []int {
	l := []int{-5, -9, -10, -63, -64, -65, -128, -255, -256, 65, 66, 127, 128, 129, 255, 256, 257, 258, 260, 320, 1 << 16, 1<<16 + 1,
		1<<31 - 1, 1 << 31, -1 << 31, -1<<31 + 1, 1 << 32, 1<<32 + 1, 1<<32 + 2, 1<<32 + 4, 1<<32 + 8, 1<<32 + 63, -1 << 32, -1<<32 + 1, -1<<32 + 4,
		1 << 58, 1<<58 + 1, 1 << 60, 1<<61 + 1, 1 << 62, 1<<62 + 1, -1 << 62, -1<<62 + 1}
	for n := range 10 {
		l = append(l, greatest-n, least+n)
	}
	return l
}

// whose is a page's thread, and its class there.
type whose struct{ thread, class int }

var nobody = whose{-1, 0}

// plain is what a cache must be: a list of whose each page is.
type plain struct {
	threads int
	list    []whose
}

func newPlain(n int) *plain {
	return &plain{threads: n, list: slices.Repeat([]whose{nobody}, pages)}
}

func (m *plain) clone() *plain {
	return &plain{threads: m.threads, list: slices.Clone(m.list)}
}

func (m *plain) owner(p int) whose {
	if p < 0 || p >= pages {
		return nobody
	}
	return m.list[p]
}

// are the pages of which that holds, rising.
func (m *plain) are(holds func(w whose) bool) []int {
	var l []int
	for p, w := range m.list {
		if w != nobody && holds(w) {
			l = append(l, p)
		}
	}
	return l
}

func (m *plain) page(t int, k int) int {
	l := m.are(func(w whose) bool { return w == whose{t, k} })
	if len(l) == 0 {
		return -1
	}
	return l[0]
}

func (m *plain) all() []int {
	return m.are(func(whose) bool { return true })
}

func (m *plain) set(t int, k int, p int) bool {
	if t < 0 || t >= m.threads || k < 1 || k > smalls || p < 0 || p >= pages || m.list[p] != nobody {
		return false
	}
	if elder := m.page(t, k); elder >= 0 {
		m.list[elder] = nobody
	}
	m.list[p] = whose{t, k}
	return true
}

func (m *plain) drop(t int) []int {
	l := m.are(func(w whose) bool { return w.thread == t })
	for _, p := range l {
		m.list[p] = nobody
	}
	return l
}

// held is a cache, and the plain list that it is held against.
type held struct {
	cache *cache.Cache
	plain *plain
	// Between the calls that are looked at, only answers are held.
	quiet bool
}

func newHeld(n int) *held {
	return &held{cache: cache.New(n), plain: newPlain(n)}
}

// checkPage asks Page of one thread and class.
func (h *held) checkPage(t *testing.T, thread int, class int, when string) {
	if got, want := h.cache.Page(thread, class), h.plain.page(thread, class); got != want {
		t.Fatalf("P12.1: %s: Page(%d, %d) = %d; want %d", when, thread, class, got, want)
	}
}

// checkOwner asks Owner of one page.
func (h *held) checkOwner(t *testing.T, p int, when string) {
	want := h.plain.owner(p)
	if thread, class := h.cache.Owner(p); thread != want.thread || class != want.class {
		t.Fatalf("P12.1: %s: Owner(%d) = %d, %d; want %d, %d", when, p, thread, class, want.thread, want.class)
	}
}

// check asks all that tells, of each thread, class and page, and one step beyond each end.
func (h *held) check(t *testing.T, when string) {
	if got, want := h.cache.All(), h.plain.all(); !slices.Equal(got, want) {
		t.Fatalf("P12.1: %s: All() = %v; want %v", when, got, want)
	}
	for thread := -1; thread <= threads; thread++ {
		for class := -1; class <= smalls+1; class++ {
			h.checkPage(t, thread, class, when)
		}
	}
	for p := -1; p <= pages; p++ {
		h.checkOwner(t, p, when)
	}
}

// checkFar asks of threads, classes and pages that no cache has.
func (h *held) checkFar(t *testing.T, when string) {
	for _, n := range far() {
		h.checkOwner(t, n, when)
		for m := -1; m <= threads; m++ {
			h.checkPage(t, n, m, when)
			h.checkPage(t, m, n, when)
		}
		for _, m := range far() {
			h.checkPage(t, n, m, when)
		}
	}
}

// behind looks at all behind a call, unless it is one of those between.
func (h *held) behind(t *testing.T, call string) {
	if !h.quiet {
		h.check(t, "behind "+call)
	}
}

// Each of these calls the cache, and wants what the chapter says of such a one.

func (h *held) set(t *testing.T, thread int, class int, p int) bool {
	t.Helper()
	want := h.plain.set(thread, class, p)
	got := h.cache.Set(thread, class, p)
	if got != want {
		t.Fatalf("P12.1: of %v, Set(%d, %d, %d) = %t; want %t", h.cache.All(), thread, class, p, got, want)
	}
	h.behind(t, "Set")
	return got
}

func (h *held) drop(t *testing.T, thread int) []int {
	t.Helper()
	want := h.plain.drop(thread)
	got := h.cache.Drop(thread)
	if !slices.Equal(got, want) {
		t.Fatalf("P12.1: Drop(%d) = %v; want %v", thread, got, want)
	}
	h.behind(t, "Drop")
	return got
}

// clone is a clone, held against a list of its own.
func (h *held) clone(t *testing.T) *held {
	t.Helper()
	c := h.cache.Clone()
	if c == nil {
		t.Fatalf("P12.1: of New(%d), Clone() = nil", h.plain.threads)
	}
	return &held{cache: c, plain: h.plain.clone(), quiet: h.quiet}
}

// The ways to lay a cache.
const (
	empty   = iota // no page
	one            // one page, of one thread
	rising         // all that can be, from page 0 on
	falling        // all that can be, from the last page down
	some           // here and there
	again          // all that can be, each in the place of an elder one
	ways           // how many there are
)

// laid is a cache of so many threads, made by the calls alone.
func laid(t *testing.T, n int, how int) *held {
	t.Helper()
	h := newHeld(n)
	h.quiet = true
	if how == one {
		h.set(t, n/2, 1+n%smalls, 7*n%pages)
	}
	for i := range n * smalls {
		thread, class := i/smalls, 1+i%smalls
		switch how {
		case rising:
			h.set(t, thread, class, i)
		case falling:
			h.set(t, thread, class, pages-1-i)
		case some:
			if i%3 != 1 {
				// Eleven is in no number of pages, so these are apart.
				h.set(t, thread, class, (5+11*i)%pages)
			}
		case again:
			h.set(t, thread, class, i)
			h.set(t, thread, class, pages-1-i%4)
			h.set(t, thread, class, (i+8)%40)
		}
	}
	h.quiet = false
	return h
}

// many are caches of each number of threads, laid in each way.
func many(t *testing.T) []*held {
	t.Helper()
	var l []*held
	for n := 0; n <= threads; n++ {
		for how := range ways {
			l = append(l, laid(t, n, how))
		}
	}
	return l
}
