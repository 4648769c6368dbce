package sweep_test

import (
	"math"
	"slices"
	"testing"

	"scutage/api"
	"scutage/shade"
	"scutage/stack"
	"scutage/store"
	"scutage/sweep"
)

const (
	least    = math.MinInt64
	greatest = math.MaxInt64
	// pageWords, mostPages, mostRoom, addresses and large are as the chapters ahead write them out.
	pageWords = 32
	mostPages = 64
	mostRoom  = 256
	addresses = 2048
	large     = 5
	other     = 6
)

// sizes are the words of a cell of each small class, counts the cells of its page, and most the most fields of its objects, as the chapters ahead write them out; of no class at 0.
var (
	sizes  = []int{0, 2, 4, 8, 16}
	counts = []int{0, 16, 8, 4, 2}
	most   = []int{0, 1, 3, 7, 15}
)

// small tells whether pages of this kind have cells.
func small(kind int) bool {
	return kind >= 1 && kind <= 4
}

// classOf is the class of an object with n fields.
func classOf(n int) int {
	for k := 1; k <= 4; k++ {
		if n <= most[k] {
			return k
		}
	}
	return large
}

// ref is the reference to a, num the number n; nothing is api.Value{}.
func ref(a int) api.Value {
	return api.Value{Kind: api.Reference, N: int64(a)}
}

func num(n int64) api.Value {
	return api.Value{Kind: api.Number, N: n}
}

// far are numbers of pages as far out as can be, and such as may be when cut short.
func far() []int {
	return []int{-1, -2, -16, -32, -64, -127, -128, -2048, -1 << 31, -1 << 32, -1<<32 + 1, -1<<32 + 3, least, least + 1, least + 3, least + 64,
		65, 66, 127, 128, 129, 2048, 65536, 65537, 1 << 31, 1 << 32, 1<<32 + 1, 1<<32 + 3, 1<<32 + 64, 1 << 62, greatest - 64, greatest - 1, greatest}
}

// nearest is the number from lo to hi that is nearest to n.
func nearest(n int, lo int, hi int) int {
	return max(lo, min(n, hi))
}

// object is what stands at an address.
type object struct {
	serial int64
	fields []api.Value
}

// plain is what a sweeper, its store and its grey must be, in plain lists.
type plain struct {
	threads int
	kinds   []int
	// The addresses of each small page's free cells, the first one first.
	free [][]int
	// Whose each page is; -1: nobody's.
	owner []int
	// What begins at each address; nil: no object.
	at    [addresses]*object
	made  int64
	marks [addresses]bool
	room  int
	list  []stack.Entry
	over  bool
	// How many pages are gone through, the next one, and how many objects were freed.
	pages int
	next  int
	freed int
}

// run is where n free pages begin that follow one another, the lowest ones; -1: there are none.
func (m *plain) run(n int) int {
	for p := range m.kinds {
		if p+n <= len(m.kinds) && !slices.ContainsFunc(m.kinds[p:p+n], func(kind int) bool { return kind != 0 }) {
			return p
		}
	}
	return -1
}

// begin makes an object with n fields stand at a.
func (m *plain) begin(a int, n int) int {
	m.at[a] = &object{serial: m.made, fields: make([]api.Value, n)}
	m.made++
	return a
}

// own is the page that thread t has for class k; -1: none.
func (m *plain) own(t int, k int) int {
	for p, owner := range m.owner {
		if owner == t && m.kinds[p] == k {
			return p
		}
	}
	return -1
}

// open is a page of class k with a free cell, that is thread t's then; -1: there is none.
func (m *plain) open(t int, k int) int {
	elder := m.own(t, k)
	if elder >= 0 && len(m.free[elder]) > 0 {
		return elder
	}
	p := -1
	for i, kind := range m.kinds {
		if p < 0 && kind == k && m.owner[i] == -1 && len(m.free[i]) > 0 {
			p = i
		}
	}
	if p < 0 {
		p = m.carve(k)
	}
	if p >= 0 {
		if elder >= 0 {
			m.owner[elder] = -1
		}
		m.owner[p] = t
	}
	return p
}

// carve makes the lowest free page be of class k; -1: there is none.
func (m *plain) carve(k int) int {
	p := m.run(1)
	if p >= 0 {
		m.kinds[p], m.free[p] = k, nil
		for i := range counts[k] {
			m.free[p] = append(m.free[p], p*pageWords+i*sizes[k])
		}
	}
	return p
}

// make makes an object with n fields for thread t, and answers where; -1: there is no room.
func (m *plain) make(t int, n int) int {
	k := classOf(n)
	if k == large {
		return m.span(n)
	}
	p := m.open(t, k)
	if p < 0 {
		return -1
	}
	a := m.free[p][0]
	m.free[p] = slices.Clone(m.free[p][1:])
	return m.begin(a, n)
}

func (m *plain) span(n int) int {
	// One word more than fields, and the last page need not be full.
	count := (1 + n + pageWords - 1) / pageWords
	p := m.run(count)
	if p < 0 {
		return -1
	}
	for i := range count {
		m.kinds[p+i] = other
	}
	m.kinds[p] = large
	return m.begin(p*pageWords, n)
}

// drop frees the object at a; false: there is none.
func (m *plain) drop(a int) bool {
	if m.at[a] == nil {
		return false
	}
	m.at[a] = nil
	p := a / pageWords
	if small(m.kinds[p]) {
		m.free[p] = append([]int{a}, m.free[p]...)
		return true
	}
	m.kinds[p] = 0
	for p++; p < len(m.kinds) && m.kinds[p] == other; p++ {
		m.kinds[p] = 0
	}
	return true
}

// in are the addresses of the objects that begin in page p, rising.
func (m *plain) in(p int) []int {
	var l []int
	for _, a := range m.stood() {
		if a/pageWords == p {
			l = append(l, a)
		}
	}
	return l
}

// trim makes page p be free, if it is a small class's, nobody's, and has no object.
func (m *plain) trim(p int) bool {
	if p < 0 || p >= len(m.kinds) || !small(m.kinds[p]) || m.owner[p] != -1 || len(m.in(p)) > 0 {
		return false
	}
	m.kinds[p] = 0
	return true
}

// quit makes thread t's pages be nobody's, and free, where they have no object.
func (m *plain) quit(t int) int {
	freed := 0
	for p, owner := range m.owner {
		if owner == t {
			m.owner[p] = -1
			if m.trim(p) {
				freed++
			}
		}
	}
	return freed
}

// freePages is how many pages are free.
func (m *plain) freePages() int {
	n := 0
	for _, kind := range m.kinds {
		if kind == 0 {
			n++
		}
	}
	return n
}

func (m *plain) rest(e stack.Entry) {
	if len(m.list) == m.room {
		m.over = true
		return
	}
	m.list = append(slices.Clone(m.list), e)
}

// unit is the chapter's, word by word.
func (m *plain) unit() bool {
	if m.next == m.pages {
		return false
	}
	for _, a := range m.in(m.next) {
		if m.marks[a] {
			m.marks[a] = false
		} else {
			m.drop(a)
			m.freed++
		}
	}
	m.trim(m.next)
	m.next++
	return true
}

// marked are the marked addresses, rising.
func (m *plain) marked() []int {
	var l []int
	for a, is := range m.marks {
		if is {
			l = append(l, a)
		}
	}
	return l
}

// stood are the addresses of the objects, rising.
func (m *plain) stood() []int {
	var l []int
	for a, o := range m.at {
		if o != nil {
			l = append(l, a)
		}
	}
	return l
}

// both are the addresses of the objects that are marked, rising.
func (m *plain) both() []int {
	return slices.DeleteFunc(m.stood(), func(a int) bool { return !m.marks[a] })
}

// held is a sweeper, with its store and its grey, and the plain one that they are held against.
type held struct {
	store   *store.Store
	grey    *shade.Grey
	sweeper *sweep.Sweeper
	plain   *plain
	// Between the calls that are looked at, only answers are held.
	quiet bool
}

// newHeld has a store of that many pages, and a sweeper of as many.
func newHeld(pages int, threads int) *held {
	return newOver(pages, threads, pages)
}

// newOver has a store of that many pages, and a sweeper that goes through others.
func newOver(stored int, threads int, pages int) *held {
	const room = 3
	h := &held{store: store.New(stored, threads), grey: shade.New(room)}
	h.sweeper = sweep.New(h.store, h.grey, pages)
	n := nearest(pages, 1, mostPages)
	h.plain = &plain{
		threads: threads,
		kinds:   make([]int, stored),
		free:    make([][]int, stored),
		owner:   slices.Repeat([]int{-1}, stored),
		room:    room,
		pages:   n,
		next:    n,
	}
	return h
}

// glance asks all that the sweeper tells, and what is there and marked, and changes nothing.
func (h *held) glance(t *testing.T, when string) {
	t.Helper()
	m := h.plain
	if got := h.sweeper.At(); got != m.next {
		t.Fatalf("P20.1: %s: At() = %d; want %d", when, got, m.next)
	}
	if got, want := h.sweeper.Done(), m.next == m.pages; got != want {
		t.Fatalf("P20.1: %s: at %d of %d, Done() = %t; want %t", when, m.next, m.pages, got, want)
	}
	if got := h.sweeper.Freed(); got != m.freed {
		t.Fatalf("P20.1: %s: Freed() = %d; want %d", when, got, m.freed)
	}
	if got, want := h.grey.All(), m.marked(); !slices.Equal(got, want) {
		t.Fatalf("P20.1: %s: marked are %v; want %v", when, got, want)
	}
	if got, want := h.store.Objects(), m.stood(); !slices.Equal(got, want) {
		t.Fatalf("P20.1: %s: objects are at %v; want %v", when, got, want)
	}
	if got, want := h.store.Pages(), m.freePages(); got != want {
		t.Fatalf("P20.1: %s: of %v, %d pages are free; want %d", when, m.kinds, got, want)
	}
	for p, want := range m.kinds {
		if got := h.store.Kind(p); got != want {
			t.Fatalf("P20.1: %s: of %v, page %d is of kind %d", when, m.kinds, p, got)
		}
	}
}

// look asks all that the sweeper, the grey and the store tell, and changes nothing.
func (h *held) look(t *testing.T, when string) {
	t.Helper()
	h.glance(t, when)
	m := h.plain
	for p, want := range m.owner {
		if got := h.store.Owner(p); got != want {
			t.Fatalf("P20.1: %s: of %v, page %d is %d's; want %d's", when, m.kinds, p, got, want)
		}
	}
	if got := h.store.Made(); got != m.made {
		t.Fatalf("P20.1: %s: %d were made; want %d", when, got, m.made)
	}
	if got := h.grey.Over(); got != m.over {
		t.Fatalf("P20.1: %s: Over() = %t; want %t", when, got, m.over)
	}
	if got := waiting(h.grey); !slices.Equal(got, m.list) {
		t.Fatalf("P20.1: %s: from the bottom on waits %v; want %v", when, got, m.list)
	}
	for _, a := range m.stood() {
		h.lookAt(t, a, when)
	}
}

// lookAt asks all that the store tells of the object at a.
func (h *held) lookAt(t *testing.T, a int, when string) {
	t.Helper()
	o := h.plain.at[a]
	if got := h.store.Fields(a); got != len(o.fields) {
		t.Fatalf("P20.1: %s: the object at %d has %d fields; want %d", when, a, got, len(o.fields))
	}
	if got := h.store.Serial(a); got != o.serial {
		t.Fatalf("P20.1: %s: the object at %d is number %d; want %d", when, a, got, o.serial)
	}
	for i, want := range o.fields {
		if got, ok := h.store.Get(a, i); got != want || !ok {
			t.Fatalf("P20.1: %s: field %d of the object at %d is %v, %t; want %v", when, i, a, got, ok, want)
		}
	}
}

// waiting is what waits in g, from the bottom on; g stays.
func waiting(g *shade.Grey) []stack.Entry {
	var l []stack.Entry
	c := g.Clone()
	for e, ok := c.Next(); ok; e, ok = c.Next() {
		l = append(l, e)
	}
	slices.Reverse(l)
	return l
}

// behind looks behind a call, unless it is one of those between.
func (h *held) behind(t *testing.T, call string) {
	t.Helper()
	if !h.quiet {
		h.look(t, "behind "+call)
	}
}

// Each of these does something to the sweeper, its store or its grey, and wants what the chapters say of such a one.

func (h *held) start(t *testing.T) {
	t.Helper()
	h.sweeper.Start()
	h.plain.next, h.plain.freed = 0, 0
	h.behind(t, "Start")
}

func (h *held) unit(t *testing.T) bool {
	t.Helper()
	next := h.plain.next
	want := h.plain.unit()
	got := h.sweeper.Unit()
	if got != want {
		t.Fatalf("P20.1: at page %d of %d, Unit() = %t; want %t", next, h.plain.pages, got, want)
	}
	h.behind(t, "Unit")
	return got
}

// units does that many.
func (h *held) units(t *testing.T, n int) {
	t.Helper()
	for range n {
		h.unit(t)
	}
}

// all does units until it is done, and three more; it answers how many there were.
func (h *held) all(t *testing.T) int {
	t.Helper()
	n := 0
	for h.unit(t) {
		n++
		if n > mostPages {
			t.Fatal("P20.1: there are more units than pages")
		}
	}
	for range 3 {
		if h.unit(t) || !h.sweeper.Done() || h.sweeper.At() != h.plain.pages {
			t.Fatal("P20.1: behind the last unit there is one, or it is not done, or not at as many pages as there are")
		}
	}
	return n
}

// sweep is a whole one: of each page a unit.
func (h *held) sweep(t *testing.T) {
	t.Helper()
	h.start(t)
	if n := h.all(t); n != h.plain.pages {
		t.Fatalf("P20.1: of %d pages there are %d units", h.plain.pages, n)
	}
}

// make makes an object with n fields for a thread, each of them something, and answers where; -1: there is no room.
func (h *held) make(t *testing.T, thread int, n int) int {
	t.Helper()
	want := h.plain.make(thread, n)
	a, err := h.store.Slow(thread, n)
	if err != api.OK {
		a = -1
	}
	if a != want {
		t.Fatalf("P20.1: of %v, thread %d's object with %d fields is made at %d; want %d", h.plain.kinds, thread, n, a, want)
	}
	if a < 0 {
		return a
	}
	for i := range n {
		if v, ok := h.store.Get(a, i); v != (api.Value{}) || !ok {
			t.Fatalf("P20.1: field %d of a new object at %d is %v, %t", i, a, v, ok)
		}
		h.set(t, a, i, unlike(a, i, int(h.plain.made)))
	}
	h.behind(t, "make")
	return a
}

// fill makes count objects with n fields for a thread, and answers where; there must be room.
func (h *held) fill(t *testing.T, thread int, n int, count int) []int {
	t.Helper()
	var l []int
	for range count {
		a := h.make(t, thread, n)
		if a < 0 {
			t.Fatalf("no room for an object with %d fields: %v", n, h.plain.kinds)
		}
		l = append(l, a)
	}
	return l
}

// unlike is a value of its own for each field and each time, a number or a reference, never nothing.
func unlike(a int, i int, time int) api.Value {
	if (a+i+time)%3 == 0 {
		return ref((a*5 + i*11 + time*97) % addresses)
	}
	// The greatest product is far below 2^40.
	return num(int64((a*256+i)*64+time) + 1)
}

func (h *held) set(t *testing.T, a int, i int, v api.Value) {
	t.Helper()
	if !h.store.Set(a, i, v) {
		t.Fatalf("field %d of the object at %d can't be %v", i, a, v)
	}
	h.plain.at[a].fields[i] = v
}

func (h *held) free(t *testing.T, a int) {
	t.Helper()
	if got, want := h.store.Free(a), h.plain.drop(a); got != want {
		t.Fatalf("Free(%d) = %t; want %t", a, got, want)
	}
	h.behind(t, "Free")
}

func (h *held) quit(t *testing.T, thread int) {
	t.Helper()
	if got, want := h.store.Quit(thread), h.plain.quit(thread); got != want {
		t.Fatalf("Quit(%d) = %d; want %d", thread, got, want)
	}
	h.behind(t, "Quit")
}

func (h *held) black(t *testing.T, l ...int) {
	t.Helper()
	for _, a := range l {
		if got, want := h.grey.Black(a), !h.plain.marks[a]; got != want {
			t.Fatalf("Black(%d) = %t; want %t", a, got, want)
		}
		h.plain.marks[a] = true
	}
	h.behind(t, "Black")
}

func (h *held) shade(t *testing.T, a int) {
	t.Helper()
	want := !h.plain.marks[a]
	if got := h.grey.Shade(a); got != want {
		t.Fatalf("Shade(%d) = %t; want %t", a, got, want)
	}
	if want {
		h.plain.marks[a] = true
		h.plain.rest(stack.Entry{At: a})
	}
	h.behind(t, "Shade")
}

func (h *held) clear(t *testing.T, a int) {
	t.Helper()
	if got, want := h.grey.Clear(a), h.plain.marks[a]; got != want {
		t.Fatalf("Clear(%d) = %t; want %t", a, got, want)
	}
	h.plain.marks[a] = false
	h.behind(t, "Clear")
}

// refill makes objects of each class for each thread until there is no room: where they are made tells which cells and pages are free, and in which order. Nothing is left to be made behind it.
func (h *held) refill(t *testing.T) {
	t.Helper()
	h.quiet = true
	for _, n := range []int{15, 7, 3, 1} {
		for thread := range h.plain.threads {
			for h.plain.own(thread, classOf(n)) >= 0 && len(h.plain.free[h.plain.own(thread, classOf(n))]) > 0 {
				h.make(t, thread, n)
			}
		}
	}
	for n := 127; n >= 16; n -= 16 {
		for h.make(t, 0, n) >= 0 {
		}
	}
	for _, n := range []int{7, 1, 15, 3} {
		for h.make(t, h.plain.threads-1, n) >= 0 {
		}
	}
	h.look(t, "refilled")
}
