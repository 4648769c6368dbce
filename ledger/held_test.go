package ledger_test

import (
	"math"
	"slices"
	"testing"

	"scutage/ledger"
)

const (
	least    = math.MinInt64
	greatest = math.MaxInt64
	// mostThreads, mostWindow and mostRun are as the chapter writes them out.
	mostThreads = 8
	mostWindow  = 64
	mostRun     = 64
)

// far are numbers as far out as can be, and such as may be when cut short.
func far() []int {
	return []int{-3, -4, -8, -16, -63, -64, -65, -127, -128, -256, -1 << 31, -1 << 32, -1<<32 + 1, -1<<32 + 3, least, least + 1, least + 3, least + 64,
		66, 67, 127, 128, 129, 255, 256, 257, 260, 65535, 65536, 65537, 65540, 1 << 31, 1 << 32, 1<<32 + 1, 1<<32 + 3, 1<<32 + 64, 1 << 62, greatest - 64, greatest - 1, greatest}
}

// strangers are threads of which there is none, however many there are.
func strangers() []int {
	return append(far(), -1, -2, 8, 9, 10, 63, 64, 65)
}

// near are all threads that can be there, and some beyond each end.
func near() []int {
	return []int{-2, -1, 0, 1, 2, 3, 4, 5, 6, 7, 8, 9}
}

// numbers are how many letters may be asked for: all from below 0 to above 64, and far ones.
func numbers() []int {
	l := far()
	for n := -2; n <= mostRun+2; n++ {
		l = append(l, n)
	}
	return l
}

// nearest is the number from lo to hi that is nearest to n.
func nearest(n int, lo int, hi int) int {
	return max(lo, min(n, hi))
}

// plain is what a ledger must be: lists of all letters that ever came.
type plain struct {
	window int
	most   int
	all    [][]bool
}

func newPlain(threads int, window int, most int) *plain {
	n := nearest(window, 1, mostWindow)
	return &plain{window: n, most: nearest(most, 0, n), all: make([][]bool, nearest(threads, 0, mostThreads))}
}

func (m *plain) has(t int) bool {
	return t >= 0 && t < len(m.all)
}

// tail are the last window letters of these, all if there are fewer.
func (m *plain) tail(letters []bool) []bool {
	if len(letters) <= m.window {
		return letters
	}
	return letters[len(letters)-m.window:]
}

// works is how many of these letters are the collector's.
func works(letters []bool) int {
	n := 0
	for _, is := range letters {
		if is {
			n++
		}
	}
	return n
}

// more are thread t's letters, with n more of one kind.
func (m *plain) more(t int, n int, work bool) []bool {
	l := slices.Clone(m.all[t])
	for range n {
		l = append(l, work)
	}
	return l
}

func (m *plain) run(t int, n int) bool {
	if !m.has(t) || n < 0 || n > mostRun {
		return false
	}
	m.all[t] = m.more(t, n, false)
	return true
}

func (m *plain) admit(t int, n int) bool {
	return m.has(t) && n >= 0 && n <= m.most && works(m.tail(m.more(t, n, true))) <= m.most
}

func (m *plain) work(t int, n int) bool {
	if !m.admit(t, n) {
		return false
	}
	m.all[t] = m.more(t, n, true)
	return true
}

// last are thread t's last letters; of no thread: none.
func (m *plain) last(t int) []bool {
	if !m.has(t) {
		return nil
	}
	return m.tail(m.all[t])
}

// total is how many of all letters of thread t are its own, and how many the collector's.
func (m *plain) total(t int) (int64, int64) {
	if !m.has(t) {
		return 0, 0
	}
	n := works(m.all[t])
	return int64(len(m.all[t]) - n), int64(n)
}

func (m *plain) clone() *plain {
	c := &plain{window: m.window, most: m.most}
	for _, l := range m.all {
		c.all = append(c.all, slices.Clone(l))
	}
	return c
}

// worst is the most of the collector's letters in a window of these, wherever it begins.
func worst(letters []bool, window int) int {
	got := 0
	for i := range letters {
		got = max(got, works(letters[i:min(i+window, len(letters))]))
	}
	return got
}

// held is a ledger, and the plain one that it is held against.
type held struct {
	ledger *ledger.Ledger
	plain  *plain
	// Between the calls that are looked at, only answers are held.
	quiet bool
}

func newHeld(threads int, window int, most int) *held {
	return &held{ledger: ledger.New(threads, window, most), plain: newPlain(threads, window, most)}
}

// tell writes letters: o its own, c the collector's.
func tell(letters []bool) string {
	b := make([]byte, 0, len(letters))
	for _, is := range letters {
		if is {
			b = append(b, 'c')
		} else {
			b = append(b, 'o')
		}
	}
	return string(b)
}

// lookAt asks all that is told of thread t, and changes nothing.
func (h *held) lookAt(t *testing.T, thread int, when string) {
	t.Helper()
	m := h.plain
	want := m.last(thread)
	if got := h.ledger.Last(thread); !slices.Equal(got, want) {
		t.Fatalf("P21.1: of %d, %d: %s: Last(%d) = %s; want %s", m.window, m.most, when, thread, tell(got), tell(want))
	}
	if got, want := h.ledger.Count(thread), works(want); got != want {
		t.Fatalf("P21.1: of %d, %d: %s: Count(%d) = %d; want %d", m.window, m.most, when, thread, got, want)
	}
	if got := works(want); got > m.most {
		t.Fatalf("P21.2: of %d, %d: %s: %d of %s are the collector's", m.window, m.most, when, got, tell(want))
	}
	own, work := h.ledger.Total(thread)
	if wantOwn, wantWork := m.total(thread); own != wantOwn || work != wantWork {
		t.Fatalf("P21.1: of %d, %d: %s: Total(%d) = %d, %d; want %d, %d", m.window, m.most, when, thread, own, work, wantOwn, wantWork)
	}
}

// look asks all that is told of each thread, and of some that are none.
func (h *held) look(t *testing.T, when string) {
	t.Helper()
	for thread := -1; thread <= len(h.plain.all); thread++ {
		h.lookAt(t, thread, when)
	}
}

// asks asks Admit of each thread, for all numbers about its edges.
func (h *held) asks(t *testing.T, when string) {
	t.Helper()
	m := h.plain
	for thread := -1; thread <= len(m.all); thread++ {
		for n := -1; n <= m.most+2; n++ {
			if got, want := h.ledger.Admit(thread, n), m.admit(thread, n); got != want {
				t.Fatalf("P21.1: of %d, %d: %s: behind %s, Admit(%d, %d) = %t; want %t", m.window, m.most, when, tell(m.last(thread)), thread, n, got, want)
			}
		}
	}
}

// behind looks behind a call, unless it is one of those between.
func (h *held) behind(t *testing.T, call string) {
	t.Helper()
	if !h.quiet {
		h.look(t, "behind "+call)
	}
}

func (h *held) run(t *testing.T, thread int, n int) bool {
	t.Helper()
	want := h.plain.run(thread, n)
	if got := h.ledger.Run(thread, n); got != want {
		t.Fatalf("P21.1: of %d, %d: Run(%d, %d) = %t; want %t", h.plain.window, h.plain.most, thread, n, got, want)
	}
	h.behind(t, "Run")
	return want
}

func (h *held) admit(t *testing.T, thread int, n int) bool {
	t.Helper()
	want := h.plain.admit(thread, n)
	if got := h.ledger.Admit(thread, n); got != want {
		t.Fatalf("P21.1: of %d, %d: behind %s, Admit(%d, %d) = %t; want %t", h.plain.window, h.plain.most, tell(h.plain.last(thread)), thread, n, got, want)
	}
	h.behind(t, "Admit")
	return want
}

func (h *held) work(t *testing.T, thread int, n int) bool {
	t.Helper()
	last := tell(h.plain.last(thread))
	want := h.plain.work(thread, n)
	if got := h.ledger.Work(thread, n); got != want {
		t.Fatalf("P21.1: of %d, %d: behind %s, Work(%d, %d) = %t; want %t", h.plain.window, h.plain.most, last, thread, n, got, want)
	}
	h.behind(t, "Work")
	return want
}

// clone is one of its own, with a plain one of its own.
func (h *held) clone(t *testing.T) *held {
	t.Helper()
	c := &held{ledger: h.ledger.Clone(), plain: h.plain.clone(), quiet: h.quiet}
	if c.ledger == nil || c.ledger == h.ledger {
		t.Fatal("P21.1: Clone() is none, or the same")
	}
	c.behind(t, "Clone")
	return c
}

// play tells thread t these letters one by one: o its own, c the collector's, which must be admitted.
func (h *held) play(t *testing.T, thread int, letters string) {
	t.Helper()
	for _, letter := range letters {
		ok := letter == 'o' && h.run(t, thread, 1) || letter == 'c' && h.work(t, thread, 1)
		if !ok {
			t.Fatalf("P21.1: of %d, %d: one of %s doesn't come", h.plain.window, h.plain.most, letters)
		}
	}
}

// windows holds P21.2 against all letters that came.
func (h *held) windows(t *testing.T) {
	t.Helper()
	for thread, l := range h.plain.all {
		if got := worst(l, h.plain.window); got > h.plain.most {
			t.Fatalf("P21.2: of %d, %d: thread %d has %d of the collector's letters in a window", h.plain.window, h.plain.most, thread, got)
		}
	}
}

// many are ledgers of several shapes, none, few, many letters told.
func many(t *testing.T) []*held {
	t.Helper()
	var l []*held
	for _, shape := range [][3]int{{1, 1, 0}, {1, 1, 1}, {2, 4, 2}, {3, 5, 5}, {8, 64, 64}, {8, 64, 20}, {5, 7, 0}, {0, 3, 2}, {2, 63, 1}} {
		for how := range 4 {
			h := newHeld(shape[0], shape[1], shape[2])
			h.quiet = true
			for thread := range shape[0] {
				for i := range how * 5 {
					h.run(t, thread, (i*7+thread)%4)
					h.work(t, thread, (i*3+thread)%3)
				}
			}
			h.quiet = false
			h.look(t, "laid out")
			l = append(l, h)
		}
	}
	return l
}
