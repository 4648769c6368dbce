package cells_test

import (
	"math"
	"slices"
	"testing"

	"scutage/cells"
)

const (
	least     = math.MinInt64
	greatest  = math.MaxInt64
	pageWords = 32
	most      = 64
	smalls    = 4
	large     = 5
	other     = 6
)

// sizes are the words of a cell of each small class, and counts the cells of a page, as the chapters ahead write them out; of no class at 0.
var (
	sizes  = []int{0, 2, 4, 8, 16}
	counts = []int{0, 16, 8, 4, 2}
)

// small tells whether pages of this kind have cells.
func small(kind int) bool {
	return kind >= 1 && kind <= smalls
}

// far are numbers that no page, class, number of pages or address has: such as are one when cut short, or times a page's words, and as far out as can be, with one step for each word of two pages less.
func far() []int {
	l := []int{-3, -4, -5, -6, -16, -17, -31, -32, -33, -63, -64, -65, -128, -256, -2047, -2048, -2049,
		2049, 2064, 2079, 2080, 2112, 4095, 4096, 1 << 16, 1<<16 + 1, 1<<16 + 16, 1<<16 + 32, -1 << 16, -1<<16 + 32,
		1<<31 - 1, 1 << 31, -1 << 31, -1<<31 + 32, 1 << 32, 1<<32 + 1, 1<<32 + 2, 1<<32 + 4, 1<<32 + 5, 1<<32 + 16, 1<<32 + 32, 1<<32 + 48, 1<<32 + 64,
		-1 << 32, -1<<32 + 1, -1<<32 + 2, -1<<32 + 16, -1<<32 + 32}
	// Times a page's words, or a cell's, these wrap round.
	for bit := 55; bit < 63; bit++ {
		for i := range 3 {
			l = append(l, 1<<bit+i, -1<<bit+i)
		}
	}
	for i := range 2*pageWords + 1 {
		l = append(l, greatest-i, least+i)
	}
	return l
}

// plain is what a heap must be, in plain lists.
type plain struct {
	kinds []int
	// Each small page's free cells, the first one first.
	free [][]int
	// Where that begins which is taken, and has this word; -1: nothing.
	owner []int
	words []int64
}

func newPlain(pages int) *plain {
	return &plain{
		kinds: make([]int, pages),
		free:  make([][]int, pages),
		owner: slices.Repeat([]int{-1}, pages*pageWords),
		words: make([]int64, pages*pageWords),
	}
}

// lowest is where the lowest n free pages that follow one another begin; -1, if there are none.
func (m *plain) lowest(n int) int {
	run := 0
	for p, kind := range m.kinds {
		run++
		if kind != 0 {
			run = 0
		}
		if n >= 1 && run == n {
			return p - n + 1
		}
	}
	return -1
}

// own makes the n words from a on be owner's.
func (m *plain) own(a int, n int, owner int) {
	for i := range n {
		m.owner[a+i] = owner
	}
}

func (m *plain) carve(k int) (int, bool) {
	p := m.lowest(1)
	if !small(k) || p < 0 {
		return 0, false
	}
	m.kinds[p], m.free[p] = k, nil
	clear(m.words[p*pageWords : (p+1)*pageWords])
	for i := range counts[k] {
		m.free[p] = append(m.free[p], i)
		m.words[p*pageWords+i*sizes[k]] = -1 - int64(i+1)
	}
	return p, true
}

func (m *plain) take(p int) (int, bool) {
	if m.left(p) == 0 {
		return 0, false
	}
	size := sizes[m.kinds[p]]
	a := p*pageWords + m.free[p][0]*size
	m.free[p] = slices.Clone(m.free[p][1:])
	clear(m.words[a : a+size])
	m.own(a, size, a)
	return a, true
}

func (m *plain) large(n int) (int, bool) {
	p := m.lowest(n)
	if p < 0 {
		return 0, false
	}
	for i := range n {
		m.kinds[p+i] = other
	}
	m.kinds[p] = large
	a := p * pageWords
	clear(m.words[a : a+n*pageWords])
	m.own(a, n*pageWords, a)
	return a, true
}

func (m *plain) give(a int) bool {
	if a < 0 || m.base(a) != a {
		return false
	}
	p := a / pageWords
	k := m.kinds[p]
	if !small(k) {
		for i := a; i < len(m.owner) && m.owner[i] == a; i++ {
			m.kinds[i/pageWords], m.owner[i] = 0, -1
		}
		return true
	}
	next := counts[k]
	if len(m.free[p]) > 0 {
		next = m.free[p][0]
	}
	m.words[a] = -1 - int64(next)
	m.free[p] = append([]int{a % pageWords / sizes[k]}, m.free[p]...)
	m.own(a, sizes[k], -1)
	return true
}

func (m *plain) drop(p int) bool {
	k := m.kind(p)
	if !small(k) || len(m.free[p]) < counts[k] {
		return false
	}
	m.kinds[p] = 0
	return true
}

func (m *plain) store(a int, w int64) bool {
	if m.base(a) < 0 {
		return false
	}
	m.words[a] = w
	return true
}

func (m *plain) kind(p int) int {
	if p < 0 || p >= len(m.kinds) {
		return -1
	}
	return m.kinds[p]
}

func (m *plain) left(p int) int {
	if !small(m.kind(p)) {
		return 0
	}
	return len(m.free[p])
}

func (m *plain) base(a int) int {
	if a < 0 || a >= len(m.owner) {
		return -1
	}
	return m.owner[a]
}

func (m *plain) all() []int {
	var l []int
	for a, owner := range m.owner {
		if owner == a {
			l = append(l, a)
		}
	}
	return l
}

// pages is how many pages are free.
func (m *plain) pages() int {
	n := 0
	for _, kind := range m.kinds {
		if kind == 0 {
			n++
		}
	}
	return n
}

// held is a heap, and the plain lists that it is held against.
type held struct {
	heap  *cells.Cells
	plain *plain
	// Between the calls that are looked at, only answers are held.
	quiet bool
}

func newHeld(pages int) *held {
	return &held{heap: cells.New(pages), plain: newPlain(pages)}
}

// checkPage asks each call that tells of a page.
func (h *held) checkPage(t *testing.T, p int, when string) {
	if got, want := h.heap.Kind(p), h.plain.kind(p); got != want {
		t.Fatalf("P11.1: %s: of %v, Kind(%d) = %d; want %d", when, h.plain.kinds, p, got, want)
	}
	if got, want := h.heap.Left(p), h.plain.left(p); got != want {
		t.Fatalf("P11.1: %s: of %v, Left(%d) = %d; want %d", when, h.plain.kinds, p, got, want)
	}
}

// checkAddress asks each call that tells of an address.
func (h *held) checkAddress(t *testing.T, a int, when string) {
	base := h.plain.base(a)
	if got := h.heap.Base(a); got != base {
		t.Fatalf("P11.1: %s: of %v, Base(%d) = %d; want %d", when, h.plain.kinds, a, got, base)
	}
	if got, want := h.heap.Is(a), a >= 0 && base == a; got != want {
		t.Fatalf("P11.1: %s: of %v, Is(%d) = %t; want %t", when, h.plain.kinds, a, got, want)
	}
	var want int64
	there := a >= 0 && a < len(h.plain.words)
	if there {
		want = h.plain.words[a]
	}
	if got, ok := h.heap.Load(a); got != want || ok != there {
		t.Fatalf("P11.1: %s: of %v, Load(%d) = %d, %t; want %d, %t", when, h.plain.kinds, a, got, ok, want, there)
	}
}

// checkBrief asks the calls that tell of the whole.
func (h *held) checkBrief(t *testing.T, when string) {
	if got, want := h.heap.All(), h.plain.all(); !slices.Equal(got, want) {
		t.Fatalf("P11.1: %s: of %v, All() = %v; want %v", when, h.plain.kinds, got, want)
	}
	if got, want := h.heap.Free(), h.plain.pages(); got != want {
		t.Fatalf("P11.1: %s: of %v, Free() = %d; want %d", when, h.plain.kinds, got, want)
	}
	got := h.heap.Mem().All()
	if len(got) != len(h.plain.words) {
		t.Fatalf("P11.1: %s: Mem() has %d words; want %d", when, len(got), len(h.plain.words))
	}
	for a, w := range h.plain.words {
		if got[a] != w {
			t.Fatalf("P11.1: %s: of %v, word %d of Mem() is %d; want %d", when, h.plain.kinds, a, got[a], w)
		}
	}
}

// check asks all that tells, of each page and address, and one step beyond each end.
func (h *held) check(t *testing.T, when string) {
	h.checkBrief(t, when)
	for p := -1; p <= len(h.plain.kinds); p++ {
		h.checkPage(t, p, when)
	}
	for a := -1; a <= len(h.plain.words); a++ {
		h.checkAddress(t, a, when)
	}
}

// checkFar asks of pages and addresses that no heap of so many pages has.
func (h *held) checkFar(t *testing.T, when string) {
	for _, n := range far() {
		h.checkPage(t, n, when)
		h.checkAddress(t, n, when)
	}
	for n := len(h.plain.kinds); n <= most*pageWords+pageWords; n++ {
		h.checkPage(t, n, when)
		if n >= len(h.plain.words) {
			h.checkAddress(t, n, when)
		}
	}
}

// behind looks at all behind a call, unless it is one of those between.
func (h *held) behind(t *testing.T, call string) {
	if !h.quiet {
		h.check(t, "behind "+call)
	}
}

func (h *held) numbered(t *testing.T, call string, n int, f func(int) (int, bool), plainly func(int) (int, bool)) (int, bool) {
	was := slices.Clone(h.plain.kinds)
	want, is := plainly(n)
	got, ok := f(n)
	if got != want || ok != is {
		t.Fatalf("P11.1: of %v, %s(%d) = %d, %t; want %d, %t", was, call, n, got, ok, want, is)
	}
	h.behind(t, call)
	return got, ok
}

func (h *held) granted(t *testing.T, call string, n int, f func(int) bool, plainly func(int) bool) bool {
	was := slices.Clone(h.plain.kinds)
	want := plainly(n)
	got := f(n)
	if got != want {
		t.Fatalf("P11.1: of %v, %s(%d) = %t; want %t", was, call, n, got, want)
	}
	h.behind(t, call)
	return got
}

// Each of these calls the heap, and wants what the chapter says of such a one.

func (h *held) carve(t *testing.T, k int) (int, bool) {
	return h.numbered(t, "Carve", k, h.heap.Carve, h.plain.carve)
}

func (h *held) take(t *testing.T, p int) (int, bool) {
	return h.numbered(t, "Take", p, h.heap.Take, h.plain.take)
}

func (h *held) large(t *testing.T, n int) (int, bool) {
	return h.numbered(t, "Large", n, h.heap.Large, h.plain.large)
}

func (h *held) give(t *testing.T, a int) bool {
	return h.granted(t, "Give", a, h.heap.Give, h.plain.give)
}

func (h *held) drop(t *testing.T, p int) bool {
	return h.granted(t, "Drop", p, h.heap.Drop, h.plain.drop)
}

func (h *held) store(t *testing.T, a int, w int64) bool {
	return h.granted(t, "Store", a,
		func(a int) bool { return h.heap.Store(a, w) },
		func(a int) bool { return h.plain.store(a, w) })
}

// unlike is a word of its own for each address and each time, above 0 and so great that it tells nothing.
func unlike(a int, time int) int64 {
	return int64(a+1)*3000000007 + int64(time)
}

// scribble stores unlike words in the n words from a on.
func (h *held) scribble(t *testing.T, a int, n int, time int) {
	for i := range n {
		h.store(t, a+i, unlike(a+i, time))
	}
}

// dirty is a heap of free pages whose words are all unlike.
func dirty(t *testing.T, pages int) *held {
	h := newHeld(pages)
	h.quiet = true
	if a, ok := h.large(t, pages); ok {
		h.scribble(t, a, pages*pageWords, 1)
		h.give(t, a)
	}
	return h
}

// The ways to fill small pages.
const (
	fresh   = iota // no cell was ever taken
	full           // all are taken
	one            // the first one is
	some           // some of those that were taken were given back, not in order
	back           // all were
	mixed          // page by page another one of these
	fillers        // how many ways there are
)

// fill takes cells of small page p, stores in them, and gives some back.
func (h *held) fill(t *testing.T, p int, how int) {
	k := h.plain.kinds[p]
	n := counts[k]
	var takes, gives int
	switch how {
	case full:
		takes = n
	case one:
		takes = 1
	case some:
		takes, gives = n, n/2
	case back:
		takes, gives = n, n
	case mixed:
		h.fill(t, p, (p+k)%mixed)
	}
	for range takes {
		a, _ := h.take(t, p)
		h.scribble(t, a, sizes[k], 2)
	}
	// Three is in no number of cells, so this meets all of them.
	for i := range gives {
		h.give(t, p*pageWords+i*3%n*sizes[k])
	}
}

// laid is a heap with pages of these kinds, made by the calls alone, from page 0 on; those that are free in the end were something else ahead.
func laid(t *testing.T, kinds []int, how int) *held {
	h := dirty(t, len(kinds))
	for p, kind := range kinds {
		switch {
		case small(kind):
			h.carve(t, kind)
		case kind == large:
			n := 1
			for p+n < len(kinds) && kinds[p+n] == other {
				n++
			}
			a, _ := h.large(t, n)
			h.scribble(t, a, n*pageWords, 3)
		case kind == 0 && p%2 == 0:
			a, _ := h.large(t, 1)
			h.scribble(t, a, pageWords, 4)
		case kind == 0:
			h.carve(t, 1+p%smalls)
		}
	}
	for p, kind := range kinds {
		if small(kind) {
			h.fill(t, p, how)
		} else if kind == 0 && !h.give(t, p*pageWords) {
			h.fill(t, p, back)
			h.drop(t, p)
		}
	}
	if !slices.Equal(h.plain.kinds, kinds) {
		t.Fatalf("laid %v; want %v", h.plain.kinds, kinds)
	}
	h.check(t, "laid")
	h.quiet = false
	return h
}

// lists are all lists of kinds that n pages can be of.
func lists(n int) [][]int {
	if n == 0 {
		return [][]int{nil}
	}
	var l [][]int
	for _, ahead := range lists(n - 1) {
		for kind := 0; kind <= other; kind++ {
			// Another page of a large object stands behind one of its pages only.
			if kind < other || len(ahead) > 0 && ahead[len(ahead)-1] >= large {
				l = append(l, append(slices.Clone(ahead), kind))
			}
		}
	}
	return l
}

// layout is how a heap is laid.
type layout struct {
	kinds []int
	how   int
}

func (l layout) lay(t *testing.T) *held {
	return laid(t, l.kinds, l.how)
}

// few are all lists of up to two pages, with each way to fill them, and those of three pages.
func few() []layout {
	var l []layout
	for _, kinds := range slices.Concat(lists(0), lists(1), lists(2)) {
		for how := range fillers {
			l = append(l, layout{kinds, how})
		}
	}
	for i, kinds := range lists(3) {
		l = append(l, layout{kinds, i % fillers})
	}
	return l
}

// many are heaps of many pages.
func many() []layout {
	var l []layout
	for _, n := range []int{9, 33, most} {
		for i, unit := range [][]int{{0, 1, 2, 3, 4, 5, 6, 6}, {4, 5, 3, 0, 0, 2, 1, 1}, {5, 6, 6, 6, 6, 6, 6, 6, 6, 0, 3, 0}, {1}, {5, 6}} {
			kinds := slices.Repeat(unit, n/len(unit)+1)[:n]
			for how := some; how < fillers; how++ {
				if how == mixed || i == 0 {
					l = append(l, layout{kinds, how})
				}
			}
		}
		whole := slices.Repeat([]int{other}, n)
		whole[0] = large
		l = append(l, layout{whole, fresh}, layout{make([]int, n), fresh})
	}
	return l
}
