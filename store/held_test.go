package store_test

import (
	"math"
	"slices"
	"testing"

	"scutage/api"
	"scutage/store"
)

const (
	least     = math.MinInt64
	greatest  = math.MaxInt64
	pageWords = 32
	most      = 64
	threads   = 9
	smalls    = 4
	large     = 5
	other     = 6
	number    = 1 << 40
	// greatestSmall and greatestObject are numbers of fields.
	greatestSmall  = 15
	greatestObject = 127
)

// sizes are the words of a cell of each small class, and counts the cells of a page, as the chapters ahead write them out; of no class at 0.
var (
	sizes  = []int{0, 2, 4, 8, 16}
	counts = []int{0, 16, 8, 4, 2}
)

// small tells whether pages of this kind have cells.
func small(kind int) bool {
	return kind >= 1 && kind <= smalls
}

// classOf is the class of an object with n fields; 0, if there is none.
func classOf(n int) int {
	switch {
	case n < 0 || n > greatestObject:
		return 0
	case n > greatestSmall:
		return large
	case n > 7:
		return 4
	case n > 3:
		return 3
	case n > 1:
		return 2
	}
	return 1
}

// far are numbers that no page, address, thread, field or number of fields has: such as are one when cut short, or times a page's words, or one more, and as far out as can be.
func far() []int {
	l := []int{-2, -3, -5, -16, -31, -32, -33, -63, -64, -65, -127, -128, -256, -2047, -2048, -2049,
		2048, 2049, 2064, 2080, 2112, 4095, 4096, 1 << 16, 1<<16 + 1, 1<<16 + 16, 1<<16 + 32, -1 << 16, -1<<16 + 32,
		1<<31 - 1, 1 << 31, -1 << 31, -1<<31 + 32, 1 << 32, 1<<32 + 1, 1<<32 + 2, 1<<32 + 5, 1<<32 + 15, 1<<32 + 16, 1<<32 + 32, 1<<32 + 64, 1<<32 + 127,
		-1 << 32, -1<<32 + 1, -1<<32 + 2, -1<<32 + 16, -1<<32 + 32}
	// Times a page's words, or a cell's, these wrap round.
	for bit := 57; bit < 63; bit++ {
		for i := range 3 {
			l = append(l, 1<<bit+i, -1<<bit+i)
		}
	}
	for i := range 3 {
		l = append(l, greatest-i, least+i)
	}
	return append(l, greatest-15, greatest-31, greatest-32, greatest-127, least+15, least+31, least+32, least+127)
}

// object is what stands at an address.
type object struct {
	serial int64
	fields []api.Value
}

// plain is what a store must be, in plain lists.
type plain struct {
	threads int
	kinds   []int
	// The addresses of each small page's free cells, the first one first.
	free [][]int
	// Whose each page is; -1: nobody's.
	owner []int
	// What begins at each address; nil: no object.
	at   []*object
	made int64
	// What Slow answers, if nobody made the store.
	state api.Errno
}

func newPlain(pages int, threads int) *plain {
	return &plain{
		threads: threads,
		kinds:   make([]int, pages),
		free:    make([][]int, pages),
		owner:   slices.Repeat([]int{-1}, pages),
		at:      make([]*object, pages*pageWords),
	}
}

// run is where n free pages begin that follow one another, the lowest ones; -1: there are none.
func (m *plain) run(n int) int {
	for p := range m.kinds {
		if p+n <= len(m.kinds) && !slices.ContainsFunc(m.kinds[p:p+n], func(kind int) bool { return kind != 0 }) {
			return p
		}
	}
	return -1
}

// own is the page that thread t has for class k; -1: none.
func (m *plain) own(t int, k int) int {
	for p, owner := range m.owner {
		if owner == t && t >= 0 && m.kinds[p] == k {
			return p
		}
	}
	return -1
}

// begin makes an object with n fields stand at a.
func (m *plain) begin(a int, n int) int {
	m.at[a] = &object{serial: m.made, fields: make([]api.Value, n)}
	m.made++
	return a
}

// from makes an object from page p's first free cell.
func (m *plain) from(p int, n int) int {
	a := m.free[p][0]
	m.free[p] = slices.Clone(m.free[p][1:])
	return m.begin(a, n)
}

func (m *plain) fast(t int, n int) (int, bool) {
	k := classOf(n)
	if !small(k) || t < 0 || t >= m.threads {
		return 0, false
	}
	p := m.own(t, k)
	if p < 0 || len(m.free[p]) == 0 {
		return 0, false
	}
	return m.from(p, n), true
}

// open is the lowest page of class k that is nobody's and has a free cell, or one that is carved; -1: neither is there.
func (m *plain) open(k int) int {
	for p, kind := range m.kinds {
		if kind == k && m.owner[p] == -1 && len(m.free[p]) > 0 {
			return p
		}
	}
	p := m.run(1)
	if p >= 0 {
		m.kinds[p], m.free[p] = k, nil
		for i := range counts[k] {
			m.free[p] = append(m.free[p], p*pageWords+i*sizes[k])
		}
	}
	return p
}

func (m *plain) slow(t int, n int) (int, api.Errno) {
	if m.state != api.OK {
		return 0, m.state
	}
	k := classOf(n)
	if k == 0 || t < 0 || t >= m.threads {
		return 0, api.ErrRange
	}
	if k == large {
		return m.span(n)
	}
	if a, ok := m.fast(t, n); ok {
		return a, api.OK
	}
	elder := m.own(t, k)
	p := m.open(k)
	if p < 0 {
		return 0, api.ErrFull
	}
	if elder >= 0 {
		m.owner[elder] = -1
	}
	m.owner[p] = t
	return m.from(p, n), api.OK
}

func (m *plain) span(n int) (int, api.Errno) {
	// One word more than fields, and the last page need not be full.
	count := (1 + n + pageWords - 1) / pageWords
	p := m.run(count)
	if p < 0 {
		return 0, api.ErrFull
	}
	for i := range count {
		m.kinds[p+i] = other
	}
	m.kinds[p] = large
	return m.begin(p*pageWords, n), api.OK
}

func (m *plain) drop(a int) bool {
	if m.object(a) == nil {
		return false
	}
	m.at[a] = nil
	p := a / pageWords
	if small(m.kinds[p]) {
		m.free[p] = append([]int{a}, m.free[p]...)
		return true
	}
	m.kinds[p] = 0
	for p++; p < len(m.kinds) && m.kinds[p] == other; p++ {
		m.kinds[p] = 0
	}
	return true
}

// object is what begins at a; nil: nothing does.
func (m *plain) object(a int) *object {
	if a < 0 || a >= len(m.at) {
		return nil
	}
	return m.at[a]
}

func (m *plain) get(a int, i int) (api.Value, bool) {
	o := m.object(a)
	if o == nil || i < 0 || i >= len(o.fields) {
		return api.Value{}, false
	}
	return o.fields[i], true
}

// may tells whether a value may be, as chapter 3 writes it out.
func may(v api.Value) bool {
	switch v.Kind {
	case 0:
		return v.N == 0
	case 1:
		return v.N >= -number && v.N <= number-1
	case 2:
		return v.N >= 0 && v.N <= 2047
	}
	return false
}

func (m *plain) set(a int, i int, v api.Value) bool {
	if _, ok := m.get(a, i); !ok || !may(v) {
		return false
	}
	m.at[a].fields[i] = v
	return true
}

func (m *plain) objects() []int {
	var l []int
	for a, o := range m.at {
		if o != nil {
			l = append(l, a)
		}
	}
	return l
}

func (m *plain) in(p int) []int {
	var l []int
	for _, a := range m.objects() {
		if a/pageWords == p {
			l = append(l, a)
		}
	}
	return l
}

// trim makes page p be free, if it is a small class's and has no object.
func (m *plain) trim(p int) bool {
	if !small(m.kind(p)) || m.owner[p] != -1 || len(m.in(p)) > 0 {
		return false
	}
	m.kinds[p] = 0
	return true
}

func (m *plain) quit(t int) int {
	freed := 0
	for p, owner := range m.owner {
		if owner == t && t >= 0 {
			m.owner[p] = -1
			if m.trim(p) {
				freed++
			}
		}
	}
	return freed
}

func (m *plain) kind(p int) int {
	if p < 0 || p >= len(m.kinds) {
		return -1
	}
	return m.kinds[p]
}

func (m *plain) whose(p int) int {
	if p < 0 || p >= len(m.owner) {
		return -1
	}
	return m.owner[p]
}

// pages is how many pages are free.
func (m *plain) pages() int {
	n := 0
	for _, kind := range m.kinds {
		if kind == 0 {
			n++
		}
	}
	return n
}

// held is a store, and the plain lists that it is held against.
type held struct {
	store *store.Store
	plain *plain
	// Between the calls that are looked at, only answers are held.
	quiet bool
}

func newHeld(pages int, threads int) *held {
	return &held{store: store.New(pages, threads), plain: newPlain(pages, threads)}
}

// checkPage asks each call that tells of a page.
func (h *held) checkPage(t *testing.T, p int, when string) {
	t.Helper()
	if got, want := h.store.Kind(p), h.plain.kind(p); got != want {
		t.Fatalf("P13.2: %s: of %v, Kind(%d) = %d; want %d", when, h.plain.kinds, p, got, want)
	}
	if got, want := h.store.Owner(p), h.plain.whose(p); got != want {
		t.Fatalf("P13.2: %s: of %v, Owner(%d) = %d; want %d", when, h.plain.kinds, p, got, want)
	}
	if got, want := h.store.In(p), h.plain.in(p); !slices.Equal(got, want) {
		t.Fatalf("P13.2: %s: of %v, In(%d) = %v; want %v", when, h.plain.kinds, p, got, want)
	}
}

// checkField asks Get of one field.
func (h *held) checkField(t *testing.T, a int, i int, when string) {
	t.Helper()
	want, there := h.plain.get(a, i)
	if got, ok := h.store.Get(a, i); got != want || ok != there {
		t.Fatalf("P13.2: %s: of %v, Get(%d, %d) = %v, %t; want %v, %t", when, h.plain.kinds, a, i, got, ok, want, there)
	}
}

// checkAddress asks each call that tells of an address, of each field and one beyond each end.
func (h *held) checkAddress(t *testing.T, a int, when string) {
	t.Helper()
	fields, serial := -1, int64(-1)
	if o := h.plain.object(a); o != nil {
		fields, serial = len(o.fields), o.serial
	}
	if got := h.store.Fields(a); got != fields {
		t.Fatalf("P13.2: %s: of %v, Fields(%d) = %d; want %d", when, h.plain.kinds, a, got, fields)
	}
	if got := h.store.Serial(a); got != serial {
		t.Fatalf("P13.2: %s: of %v, Serial(%d) = %d; want %d", when, h.plain.kinds, a, got, serial)
	}
	for i := -1; i <= max(fields, 0); i++ {
		h.checkField(t, a, i, when)
	}
}

// checkBrief asks the calls that tell of the whole.
func (h *held) checkBrief(t *testing.T, when string) {
	t.Helper()
	if got, want := h.store.Objects(), h.plain.objects(); !slices.Equal(got, want) {
		t.Fatalf("P13.2: %s: of %v, Objects() = %v; want %v", when, h.plain.kinds, got, want)
	}
	if got, want := h.store.Pages(), h.plain.pages(); got != want {
		t.Fatalf("P13.2: %s: of %v, Pages() = %d; want %d", when, h.plain.kinds, got, want)
	}
	if got, want := h.store.Made(), h.plain.made; got != want {
		t.Fatalf("P13.2: %s: of %v, Made() = %d; want %d", when, h.plain.kinds, got, want)
	}
}

// check asks all that tells, of each page, address and field, and one beyond each end.
func (h *held) check(t *testing.T, when string) {
	t.Helper()
	h.checkBrief(t, when)
	for p := -1; p <= len(h.plain.kinds); p++ {
		h.checkPage(t, p, when)
	}
	for a := -1; a <= len(h.plain.at); a++ {
		h.checkAddress(t, a, when)
	}
}

// checkFar asks of pages, addresses and fields that no store of so many pages has.
func (h *held) checkFar(t *testing.T, when string) {
	t.Helper()
	for _, n := range far() {
		h.checkPage(t, n, when)
		h.checkAddress(t, n, when)
		h.checkField(t, n, n, when)
		for _, a := range h.plain.objects() {
			h.checkField(t, a, n, when)
			// Such a field would be the object's first one, or its neighbour's, if sums were not looked at.
			h.checkField(t, n, a-n, when)
		}
	}
	for n := len(h.plain.kinds); n <= most*pageWords; n++ {
		h.checkPage(t, n, when)
		if n >= len(h.plain.at) {
			h.checkAddress(t, n, when)
		}
	}
}

// behind looks at all behind a call, unless it is one of those between.
func (h *held) behind(t *testing.T, call string) {
	t.Helper()
	if !h.quiet {
		h.check(t, "behind "+call)
	}
}

// Each of these calls the store, and wants what the chapter says of such a one.

func (h *held) fast(t *testing.T, thread int, n int) (int, bool) {
	t.Helper()
	want, is := h.plain.fast(thread, n)
	got, ok := h.store.Fast(thread, n)
	if got != want || ok != is {
		t.Fatalf("P13.1: of %v, owned by %v, Fast(%d, %d) = %d, %t; want %d, %t", h.plain.kinds, h.plain.owner, thread, n, got, ok, want, is)
	}
	h.behind(t, "Fast")
	return got, ok
}

func (h *held) slow(t *testing.T, thread int, n int) (int, api.Errno) {
	t.Helper()
	want, is := h.plain.slow(thread, n)
	got, e := h.store.Slow(thread, n)
	if got != want || e != is {
		t.Fatalf("P13.1: of %v, owned by %v, Slow(%d, %d) = %d, %d; want %d, %d", h.plain.kinds, h.plain.owner, thread, n, got, e, want, is)
	}
	h.behind(t, "Slow")
	return got, e
}

func (h *held) free(t *testing.T, a int) bool {
	t.Helper()
	want := h.plain.drop(a)
	got := h.store.Free(a)
	if got != want {
		t.Fatalf("P13.1: of %v, Free(%d) = %t; want %t", h.plain.kinds, a, got, want)
	}
	h.behind(t, "Free")
	return got
}

func (h *held) set(t *testing.T, a int, i int, v api.Value) bool {
	t.Helper()
	want := h.plain.set(a, i, v)
	got := h.store.Set(a, i, v)
	if got != want {
		t.Fatalf("P13.2: of %v, Set(%d, %d, %v) = %t; want %t", h.plain.kinds, a, i, v, got, want)
	}
	h.behind(t, "Set")
	return got
}

func (h *held) quit(t *testing.T, thread int) int {
	t.Helper()
	want := h.plain.quit(thread)
	got := h.store.Quit(thread)
	if got != want {
		t.Fatalf("P13.2: of %v, Quit(%d) = %d; want %d", h.plain.kinds, thread, got, want)
	}
	h.behind(t, "Quit")
	return got
}

func (h *held) trim(t *testing.T, p int) bool {
	t.Helper()
	want := h.plain.trim(p)
	got := h.store.Trim(p)
	if got != want {
		t.Fatalf("P13.2: of %v, owned by %v, Trim(%d) = %t; want %t", h.plain.kinds, h.plain.owner, p, got, want)
	}
	h.behind(t, "Trim")
	return got
}

// unlike is a value of its own for each field and each time, a number or a reference, never nothing.
func unlike(a int, i int, time int) api.Value {
	if (a+i+time)%3 == 0 {
		return api.Value{Kind: api.Reference, N: int64(a*5+i*11+time*97) % 2048}
	}
	// The greatest product is far below 2^40.
	n := int64((a*256+i)*64+time) + 1
	if (a+i)%2 == 0 {
		n = -n
	}
	return api.Value{Kind: api.Number, N: n}
}

// scribble sets all fields of the object at a.
func (h *held) scribble(t *testing.T, a int, time int) {
	t.Helper()
	for i := range h.plain.object(a).fields {
		h.set(t, a, i, unlike(a, i, time))
	}
}

// fill makes count objects with n fields for a thread, and sets their fields; fewer, if the store is full.
func (h *held) fill(t *testing.T, thread int, n int, count int) []int {
	t.Helper()
	var l []int
	for range count {
		a, e := h.slow(t, thread, n)
		if e != api.OK {
			break
		}
		h.scribble(t, a, 1)
		l = append(l, a)
	}
	return l
}

// dirty is a store of free pages, all of whose words were written on.
func dirty(t *testing.T, pages int, threads int) *held {
	t.Helper()
	h := newHeld(pages, threads)
	h.quiet = true
	for _, a := range h.fill(t, 0, pageWords-1, pages) {
		h.free(t, a)
	}
	return h
}

// layout is how a store is laid, by the calls alone.
type layout struct {
	pages   int
	threads int
	acts    []func(t *testing.T, h *held)
}

func (l layout) lay(t *testing.T) *held {
	t.Helper()
	h := dirty(t, l.pages, l.threads)
	for _, act := range l.acts {
		act(t, h)
	}
	h.check(t, "laid")
	h.quiet = false
	return h
}

// makes has a thread make count objects with n fields.
func makes(thread int, n int, count int) func(*testing.T, *held) {
	return func(t *testing.T, h *held) {
		t.Helper()
		h.fill(t, thread, n, count)
	}
}

// frees has the objects at these addresses freed, in this order.
func frees(l ...int) func(*testing.T, *held) {
	return func(t *testing.T, h *held) {
		t.Helper()
		for _, a := range l {
			h.free(t, a)
		}
	}
}

// quits has these threads quit.
func quits(l ...int) func(*testing.T, *held) {
	return func(t *testing.T, h *held) {
		t.Helper()
		for _, thread := range l {
			h.quit(t, thread)
		}
	}
}

// few are stores of few pages, worked out by hand so that there is each kind of page: with no object, with some and full, somebody's and nobody's.
func few() []layout {
	acts := func(l ...func(*testing.T, *held)) []func(*testing.T, *held) { return l }
	return []layout{
		{0, 2, nil},
		{1, 1, nil},
		{2, 0, nil},
		{1, 2, acts(makes(0, 15, 1))},
		{1, 2, acts(makes(0, 15, 2))},
		{2, 1, acts(makes(0, 15, 3))},
		// One page of each class, with a free cell, and with none, and another thread without any.
		{5, 2, acts(makes(0, 1, 3), makes(0, 3, 3), makes(0, 7, 3), makes(0, 15, 1))},
		{4, 2, acts(makes(0, 0, 16), makes(0, 2, 8), makes(0, 4, 4), makes(0, 8, 2))},
		{5, 2, acts(makes(1, 0, 16), makes(1, 2, 8), makes(1, 4, 4), makes(1, 8, 2), frees(30, 2, 8, 34, 44, 64, 80, 112))},
		// All are freed, but the pages stay the thread's.
		{3, 2, acts(makes(0, 7, 4), makes(1, 7, 4), frees(8, 0, 24, 16, 56, 48, 40, 32))},
		// The elder pages are nobody's: full, with some, and with none.
		{4, 2, acts(makes(0, 15, 7))},
		{5, 2, acts(makes(0, 15, 8), frees(48, 64, 80))},
		{6, 3, acts(makes(1, 7, 17), frees(40, 72, 64, 80, 88, 120), makes(0, 7, 1), frees(96))},
		// Nobody's pages above and below somebody's.
		{5, 3, acts(makes(0, 1, 2), makes(1, 1, 2), makes(2, 1, 2), quits(1), makes(1, 9, 1))},
		{5, 3, acts(makes(0, 3, 2), makes(1, 3, 2), makes(2, 3, 2), quits(0, 2), frees(32, 68))},
		// Large ones of each number of pages, and holes between them.
		{4, 1, acts(makes(0, 127, 1))},
		{8, 2, acts(makes(0, 16, 1), makes(1, 63, 1), makes(0, 94, 1), makes(1, 5, 2), frees(32))},
		{9, 2, acts(makes(0, 31, 9), frees(0, 64, 96, 160, 192, 224))},
		{7, 4, acts(makes(3, 6, 5), makes(2, 40, 1), makes(1, 6, 1), makes(0, 20, 2), quits(3), frees(0, 24, 160))},
		// A free page below, and all of the others taken.
		{4, 3, acts(makes(0, 50, 1), makes(0, 1, 1), makes(1, 2, 1), frees(0), makes(2, 31, 1))},
		// All threads that there can be, each with pages.
		{20, 9, acts(makes(8, 15, 1), makes(7, 15, 2), makes(0, 1, 1), makes(1, 1, 17), makes(2, 3, 9), makes(4, 20, 1), makes(6, 70, 1), quits(1), makes(5, 6, 3))},
	}
}

// rule makes numbers one behind the other, always the same.
type rule uint64

func (r *rule) below(n int) int {
	*r = *r*6364136223846793005 + 1442695040888963407
	return int(uint64(*r)>>33) % n
}

// some are n scripted steps.
func some(seed int, n int, way int) func(*testing.T, *held) {
	return func(t *testing.T, h *held) {
		t.Helper()
		s := &script{held: h, rule: rule(seed), way: way}
		for range n {
			s.step(t)
		}
	}
}

// many are stores of many sizes, laid by scripts.
func many() []layout {
	var l []layout
	for i, x := range []struct{ pages, threads, steps int }{{3, 1, 40}, {5, 2, 60}, {6, 9, 120}, {11, 3, 200}, {33, 8, 300}, {most, threads, 500}} {
		for way := range ways {
			l = append(l, layout{x.pages, x.threads, []func(*testing.T, *held){some(100*i+way, x.steps, way)}})
		}
	}
	return l
}

// The ways of scripts: which steps come more often.
const (
	makesMore = iota
	freesMore
	quitsMore
	largeMore
	ways // how many there are
)

// script is steps that are made one behind the other, most of them such as can be.
type script struct {
	*held
	rule rule
	way  int
}

// thread is one of the threads, now and then one beyond an end.
func (s *script) thread() int {
	if s.rule.below(20) == 0 {
		return s.rule.below(2)*(s.plain.threads+1) - 1
	}
	return s.rule.below(max(s.plain.threads, 1))
}

// count is a number of fields, now and then one that can't be.
func (s *script) count() int {
	bound := greatestSmall + 1
	if s.way == largeMore || s.rule.below(12) == 0 {
		bound = greatestObject + 2
	}
	return s.rule.below(bound+1) - s.rule.below(2)
}

// object is one of the objects, now and then another address.
func (s *script) object() int {
	l := s.plain.objects()
	if len(l) == 0 || s.rule.below(12) == 0 {
		return s.rule.below(len(s.plain.at)+2) - 1
	}
	return l[s.rule.below(len(l))]
}

// value is of any kind, now and then one that may not be.
func (s *script) value() api.Value {
	values := slices.Concat(mayBe(), mayBe(), mayNotBe())
	return values[s.rule.below(len(values))]
}

// step does one thing.
func (s *script) step(t *testing.T) {
	t.Helper()
	// How many of 100 are Slow, Fast, Free, Set, Quit; what is left is Trim.
	parts := []int{22, 22, 15, 26, 2}
	switch s.way {
	case freesMore:
		parts = []int{16, 14, 40, 20, 2}
	case quitsMore:
		parts = []int{26, 10, 25, 10, 14}
	case largeMore:
		parts = []int{35, 5, 30, 22, 2}
	}
	pick, what := s.rule.below(100), 0
	for what < len(parts) && pick >= parts[what] {
		pick -= parts[what]
		what++
	}
	switch what {
	case 0:
		s.slow(t, s.thread(), s.count())
	case 1:
		s.fast(t, s.thread(), s.count())
	case 2:
		s.free(t, s.object())
	case 3:
		a := s.object()
		fields := 0
		if o := s.plain.object(a); o != nil {
			fields = len(o.fields)
		}
		s.set(t, a, s.rule.below(fields+2)-s.rule.below(8)/7, s.value())
	case 4:
		s.quit(t, s.thread())
	default:
		s.trim(t, s.rule.below(len(s.plain.kinds)+2)-1)
	}
}

// mayBe are values that may be: the ends of each kind, and such whose words look like a first one or a free cell's.
func mayBe() []api.Value {
	l := []api.Value{{}}
	for _, n := range []int64{0, 1, -1, 2, -2, 3, -5, -9, -17, 63, 64, 65, 127, 128, 4242, -4242, 1<<31 - 1, 1 << 31, -1 << 31, 1 << 32, 1<<39 + 3, number - 1, number - 2, -number, 1 - number} {
		l = append(l, api.Value{Kind: api.Number, N: n})
	}
	for _, n := range []int64{0, 1, 2, 15, 16, 31, 32, 33, 63, 64, 127, 128, 1023, 1024, 2046, 2047} {
		l = append(l, api.Value{Kind: api.Reference, N: n})
	}
	return l
}

// mayNotBe are values that may not be: beside the ends of each kind, of no kind, and such as may be when cut short.
func mayNotBe() []api.Value {
	var l []api.Value
	for _, n := range []int64{1, -1, 2, 1 << 32, greatest, least} {
		l = append(l, api.Value{Kind: api.Nothing, N: n})
	}
	for _, n := range []int64{number, number + 1, -number - 1, 1 << 41, -1 << 41, 1 << 62, 1 << 63 >> 1, -1 << 62, greatest, greatest - 1, least, least + 1} {
		l = append(l, api.Value{Kind: api.Number, N: n})
	}
	for _, n := range []int64{-1, -2, -32, 2048, 2049, 4096, 1 << 32, 1<<32 + 5, number - 1, number, 1 << 62, 1<<62 + 1, greatest, least, least + 1} {
		l = append(l, api.Value{Kind: api.Reference, N: n})
	}
	for _, kind := range []int{-1, -2, 3, 4, 5, 256, 257, 258, 1 << 16, 1 << 32, 1<<32 + 1, 1<<32 + 2, -1 << 32, greatest, greatest - 1, least, least + 1, least + 2} {
		l = append(l, api.Value{Kind: kind}, api.Value{Kind: kind, N: 5})
	}
	return l
}
