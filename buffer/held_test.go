package buffer_test

import (
	"math"
	"slices"
	"testing"

	"scutage/buffer"
)

const (
	least    = math.MinInt64
	greatest = math.MaxInt64
	// most is how many threads there may be.
	most = 8
	// words is how many addresses there are.
	words = 2048
)

// far are numbers that neither a thread nor an address has: such as are one when cut short, and as far out as can be.
func far() []int {
	l := []int{-2, -3, -7, -8, -9, -16, -64, -128, -255, -256, -2047, -2048, -2049, 2049, 2050, 2111, 2112, 4095, 4096, 4097, 10240,
		1 << 16, 1<<16 + 1, 1<<16 + 7, 1<<16 + 2047, 1<<31 - 1, 1 << 31, 1<<31 + 1, -1 << 31, -1<<31 + 1,
		1 << 32, 1<<32 + 1, 1<<32 + 7, 1<<32 + 8, 1<<32 + 2047, -1 << 32, -1<<32 + 1, -1<<32 + 7,
		1 << 58, 1<<58 + 1, 1 << 60, 1<<61 + 1, 1 << 62, 1<<62 + 1, -1 << 62, -1<<62 + 1}
	for n := range 10 {
		l = append(l, greatest-n, least+n)
	}
	return l
}

// strangers are numbers that no thread has, though some of them are addresses.
func strangers() []int {
	return append([]int{9, 10, 15, 16, 17, 23, 24, 31, 32, 63, 64, 71, 127, 128, 129, 255, 256, 257, 263, 264, 2047, 2048}, far()...)
}

// beyond are numbers that no address has.
func beyond() []int {
	return append([]int{-1, words}, far()...)
}

// near are all threads, and one beyond each end.
func near() []int {
	var l []int
	for n := -1; n <= most; n++ {
		l = append(l, n)
	}
	return l
}

// edges are addresses at the ends, around those of pages, and between.
func edges() []int {
	return []int{0, 1, 2, 7, 8, 31, 32, 63, 64, 127, 128, 255, 256, 257, 1023, 1024, 1500, 2015, 2016, 2046, 2047}
}

// plain is what buffers must be: a list for each thread.
type plain struct {
	// None: New did not make them, and nothing can be put into them.
	none  bool
	lists [][]int
}

func newPlain(n int) *plain {
	return &plain{lists: make([][]int, n)}
}

func (m *plain) clone() *plain {
	c := newPlain(len(m.lists))
	for thread, l := range m.lists {
		c.lists[thread] = append([]int{}, l...)
	}
	return c
}

func (m *plain) of(thread int) []int {
	if thread < 0 || thread >= len(m.lists) {
		return nil
	}
	return m.lists[thread]
}

func (m *plain) put(thread int, a int) bool {
	if thread < 0 || thread >= len(m.lists) || a < 0 || a >= words {
		return false
	}
	for _, old := range m.lists[thread] {
		if old == a {
			return false
		}
	}
	m.lists[thread] = append(append([]int{}, m.lists[thread]...), a)
	return true
}

func (m *plain) take(thread int) []int {
	l := m.of(thread)
	if len(l) > 0 {
		m.lists[thread] = nil
	}
	return l
}

func (m *plain) count() int {
	n := 0
	for _, l := range m.lists {
		n += len(l)
	}
	return n
}

func (m *plain) clear() int {
	n := m.count()
	m.lists = make([][]int, len(m.lists))
	return n
}

// held is buffers, and the plain lists that they are held against.
type held struct {
	buffers *buffer.Buffers
	plain   *plain
	// Between the calls that are looked at, only answers are held.
	quiet bool
}

func newHeld(n int) *held {
	return &held{buffers: buffer.New(n), plain: newPlain(n)}
}

// checkLen asks how many addresses there are, of each of those threads.
func (h *held) checkLen(t *testing.T, threads []int, when string) {
	t.Helper()
	for _, thread := range threads {
		if got, want := h.buffers.Len(thread), len(h.plain.of(thread)); got != want {
			t.Fatalf("P16.1: %s: Len(%d) = %d; want %d", when, thread, got, want)
		}
	}
	if got, want := h.buffers.Empty(), h.plain.count() == 0; got != want {
		t.Fatalf("P16.1: %s: of %v, Empty() = %t; want %t", when, h.plain.lists, got, want)
	}
}

// copied is a clone, whose answers alone are held.
func (h *held) copied(t *testing.T) *held {
	t.Helper()
	c := h.clone(t)
	c.quiet = true
	return c
}

// checkPut asks, on a clone, which addresses stand where, by whether they can be put once more.
func (h *held) checkPut(t *testing.T) {
	t.Helper()
	c := h.copied(t)
	for thread, l := range h.plain.lists {
		for _, a := range l {
			c.put(t, thread, a)
		}
		for _, a := range edges() {
			c.put(t, thread, a)
		}
	}
}

// checkTake takes all there is, on clones: thread by thread, and at once.
func (h *held) checkTake(t *testing.T, when string) {
	t.Helper()
	c := h.copied(t)
	for _, thread := range near() {
		c.take(t, thread)
		c.checkLen(t, near(), when+", and taken")
		c.take(t, thread)
	}
	c = h.copied(t)
	c.clear(t)
	c.checkLen(t, near(), when+", and cleared")
	c.clear(t)
}

// check asks all that tells, of each thread, and beyond each end.
func (h *held) check(t *testing.T, when string) {
	t.Helper()
	h.checkLen(t, near(), when)
	if !h.plain.none {
		h.checkPut(t)
		h.checkTake(t, when)
	}
}

// behind looks at all behind a call, unless it is one of those between.
func (h *held) behind(t *testing.T, call string) {
	t.Helper()
	if !h.quiet {
		h.check(t, "behind "+call)
	}
}

// Each of these calls the buffers, and wants what the chapter says of such ones.

func (h *held) put(t *testing.T, thread int, a int) bool {
	t.Helper()
	want := h.plain.put(thread, a)
	got := h.buffers.Put(thread, a)
	if got != want {
		t.Fatalf("P16.1: Put(%d, %d) = %t; want %t; there then: %v", thread, a, got, want, h.plain.of(thread))
	}
	h.behind(t, "Put")
	return got
}

func (h *held) take(t *testing.T, thread int) []int {
	t.Helper()
	want := h.plain.take(thread)
	got := h.buffers.Take(thread)
	if !slices.Equal(got, want) {
		t.Fatalf("P16.1: Take(%d) = %v; want %v", thread, got, want)
	}
	h.behind(t, "Take")
	return got
}

func (h *held) clear(t *testing.T) int {
	t.Helper()
	was := h.plain.clone()
	want := h.plain.clear()
	got := h.buffers.Clear()
	if got != want {
		t.Fatalf("P16.1: of %v, Clear() = %d; want %d", was.lists, got, want)
	}
	h.behind(t, "Clear")
	return got
}

// clone is a clone, held against lists of its own.
func (h *held) clone(t *testing.T) *held {
	t.Helper()
	c := h.buffers.Clone()
	if c == nil {
		t.Fatalf("P16.1: of New(%d), Clone() = nil", len(h.plain.lists))
	}
	return &held{buffers: c, plain: h.plain.clone(), quiet: h.quiet}
}

// puts puts all of those addresses, one behind the other.
func (h *held) puts(t *testing.T, thread int, addresses []int) {
	t.Helper()
	for _, a := range addresses {
		h.put(t, thread, a)
	}
}

// The ways to lay buffers.
const (
	bare    = iota // none of any thread
	single         // one address, of one thread
	each           // one address of each thread, the same one
	rising         // as many as the thread's number, rising
	falling        // fewer from thread to thread, falling
	apart          // addresses of each second thread, each another's
	edge           // all edges, in each thread by turns from another one on
	again          // taken, cleared, and put once more, the other way about
	ways           // how many there are
)

// turned is l from its place n on, and then what is ahead of it.
func turned(l []int, n int) []int {
	n %= len(l)
	return slices.Concat(l[n:], l[:n])
}

// laid is buffers of so many threads, made by the calls alone.
func laid(t *testing.T, n int, how int) *held {
	t.Helper()
	h := newHeld(n)
	h.quiet = true
	if how == single {
		h.put(t, n/2, 5)
	}
	for thread := range n {
		switch how {
		case each:
			h.put(t, thread, 7)
		case rising:
			for i := range thread {
				h.put(t, thread, 100*i+thread)
			}
		case falling:
			for i := n - thread; i > 0; i-- {
				h.put(t, thread, 250*i+thread)
			}
		case apart:
			if thread%2 == 0 {
				h.puts(t, thread, []int{words - 1 - thread, thread, 1000 + thread})
			}
		case edge:
			h.puts(t, thread, turned(edges(), 3*thread))
		case again:
			h.puts(t, thread, []int{1, 3, 2, 0})
			h.take(t, thread)
			h.puts(t, thread, []int{3, 4, 1})
			h.clear(t)
		}
	}
	if how == again {
		for thread := range n {
			h.puts(t, thread, []int{4, 2, 1, 3}[:1+thread%4])
		}
	}
	h.quiet = false
	h.check(t, "laid")
	return h
}

// many are buffers of each number of threads, laid in each way.
func many(t *testing.T) []*held {
	t.Helper()
	var l []*held
	for n := range most + 1 {
		for how := range ways {
			l = append(l, laid(t, n, how))
		}
	}
	return l
}
