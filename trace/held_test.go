package trace_test

import (
	"math"
	"slices"
	"testing"

	"scutage/api"
	"scutage/shade"
	"scutage/stack"
	"scutage/store"
	"scutage/trace"
)

const (
	least    = math.MinInt64
	greatest = math.MaxInt64
	// pageWords, mostPages, mostChunk, mostRoom and addresses are as the chapters ahead write them out.
	pageWords = 32
	mostPages = 64
	mostChunk = 16
	mostRoom  = 256
	addresses = 2048
)

// entry is the entry of those numbers.
func entry(at int, from int) stack.Entry {
	return stack.Entry{At: at, From: from}
}

// ref is the reference to a, num the number n; nothing is api.Value{}.
func ref(a int) api.Value {
	return api.Value{Kind: api.Reference, N: int64(a)}
}

func num(n int64) api.Value {
	return api.Value{Kind: api.Number, N: n}
}

// far are numbers below each address and field, and above them, as far out as can be.
func far() []int {
	return []int{-1, -2, -16, -32, -64, -127, -128, -2048, -1 << 31, -1 << 32, -1<<32 + 1, least, least + 1, least + 16, least + 64,
		2048, 2049, 4096, 65536, 65537, 1 << 31, 1 << 32, 1<<32 + 1, 1 << 62, greatest - 16, greatest - 15, greatest - 1, greatest}
}

// nearest is the number from lo to hi that is nearest to n.
func nearest(n int, lo int, hi int) int {
	return max(lo, min(n, hi))
}

// plain is what a tracer, its store and its grey must be, in plain lists.
type plain struct {
	// What begins at each address; nil: no object. An object without fields is an empty list.
	objects [addresses][]api.Value
	marks   [addresses]bool
	room    int
	list    []stack.Entry
	over    bool
	pages   int
	chunk   int
	// The page that is looked at next; -1: none.
	at int
}

func (m *plain) shade(a int) bool {
	if a < 0 || a >= addresses || m.marks[a] {
		return false
	}
	m.marks[a] = true
	m.rest(entry(a, 0))
	return true
}

func (m *plain) rest(e stack.Entry) bool {
	if len(m.list) == m.room {
		m.over = true
		return false
	}
	m.list = append(m.list, e)
	return true
}

func (m *plain) next() (stack.Entry, bool) {
	if len(m.list) == 0 {
		return stack.Entry{}, false
	}
	e := m.list[len(m.list)-1]
	m.list = m.list[:len(m.list)-1]
	return e, true
}

// take goes through what e says.
func (m *plain) take(e stack.Entry) {
	if e.At < 0 || e.At >= addresses || e.From < 0 || e.From >= len(m.objects[e.At]) {
		return
	}
	part := m.objects[e.At][e.From:]
	if len(part) > m.chunk {
		part = part[:m.chunk]
		m.rest(entry(e.At, e.From+m.chunk))
	}
	m.shadeAll(part)
}

func (m *plain) shadeAll(fields []api.Value) {
	for _, v := range fields {
		if v.Kind == 2 {
			m.shade(int(v.N))
		}
	}
}

func (m *plain) unit() bool {
	if e, ok := m.next(); ok {
		m.take(e)
		return true
	}
	if m.at < 0 && !m.over {
		return false
	}
	if m.at < 0 {
		m.over = false
		m.at = 0
	}
	for a := m.at * pageWords; a < (m.at+1)*pageWords; a++ {
		if m.marks[a] {
			m.shadeAll(m.objects[a])
		}
	}
	m.at++
	if m.at == m.pages {
		m.at = -1
	}
	return true
}

func (m *plain) idle() bool {
	return len(m.list) == 0 && m.at < 0 && !m.over
}

// marked are the marked addresses, rising.
func (m *plain) marked() []int {
	var l []int
	for a, is := range m.marks {
		if is {
			l = append(l, a)
		}
	}
	return l
}

// stood are the addresses of the objects, rising.
func (m *plain) stood() []int {
	var l []int
	for a, o := range m.objects {
		if o != nil {
			l = append(l, a)
		}
	}
	return l
}

// held is a tracer, with its store and its grey, and the plain one that they are held against.
type held struct {
	store  *store.Store
	grey   *shade.Grey
	tracer *trace.Tracer
	plain  *plain
	// Between the calls that are looked at, only answers are held.
	quiet bool
}

// newHeld has a store of that many pages, and a tracer of as many.
func newHeld(pages int, room int, chunk int) *held {
	return newOver(pages, room, pages, chunk)
}

// newOver has a store of that many pages, and a tracer that looks at others.
func newOver(stored int, room int, pages int, chunk int) *held {
	h := &held{store: store.New(stored, 1), grey: shade.New(room)}
	h.tracer = trace.New(h.store, h.grey, pages, chunk)
	h.plain = &plain{room: nearest(room, 1, mostRoom), pages: nearest(pages, 1, mostPages), chunk: nearest(chunk, 1, mostChunk), at: -1}
	return h
}

// glance asks all that the tracer and the grey tell, and changes nothing.
func (h *held) glance(t *testing.T, when string) {
	t.Helper()
	m := h.plain
	if got, want := h.tracer.Idle(), m.idle(); got != want {
		t.Fatalf("P19.1: %s: Idle() = %t; want %t", when, got, want)
	}
	if got, want := h.tracer.Page(), m.at; got != want {
		t.Fatalf("P19.1: %s: Page() = %d; want %d", when, got, want)
	}
	if got, want := h.grey.All(), m.marked(); !slices.Equal(got, want) {
		t.Fatalf("P19.1: %s: marked are %v; want %v", when, got, want)
	}
	if got, want := h.grey.Over(), m.over; got != want {
		t.Fatalf("P19.1: %s: Over() = %t; want %t", when, got, want)
	}
	if got := waiting(h.grey); !slices.Equal(got, m.list) {
		t.Fatalf("P19.1: %s: from the bottom on waits %v; want %v", when, got, m.list)
	}
}

// waiting is what waits in g, from the bottom on; g stays.
func waiting(g *shade.Grey) []stack.Entry {
	var l []stack.Entry
	c := g.Clone()
	for e, ok := c.Next(); ok; e, ok = c.Next() {
		l = append(l, e)
	}
	slices.Reverse(l)
	return l
}

// look asks all that the tracer, the grey and the store tell, and changes nothing.
func (h *held) look(t *testing.T, when string) {
	t.Helper()
	h.glance(t, when)
	stood := h.plain.stood()
	if got := h.store.Objects(); !slices.Equal(got, stood) {
		t.Fatalf("P19.1: %s: objects are at %v; want %v", when, got, stood)
	}
	for _, a := range stood {
		fields := h.plain.objects[a]
		if got := h.store.Fields(a); got != len(fields) {
			t.Fatalf("P19.1: %s: the object at %d has %d fields; want %d", when, a, got, len(fields))
		}
		for i, want := range fields {
			if got, ok := h.store.Get(a, i); got != want || !ok {
				t.Fatalf("P19.1: %s: field %d of the object at %d is %v, %t; want %v", when, i, a, got, ok, want)
			}
		}
	}
}

// behind glances behind a call, unless it is one of those between.
func (h *held) behind(t *testing.T, call string) {
	t.Helper()
	if !h.quiet {
		h.glance(t, "behind "+call)
	}
}

// Each of these does something to the tracer, its store or its grey, and wants what the chapters say of such a one.

func (h *held) unit(t *testing.T) bool {
	t.Helper()
	page, wait := h.plain.at, len(h.plain.list)
	want := h.plain.unit()
	got := h.tracer.Unit()
	if got != want {
		t.Fatalf("P19.1: with room for %d, chunk %d, pages %d, where %d wait and it looks at %d next, Unit() = %t; want %t", h.plain.room, h.plain.chunk, h.plain.pages, wait, page, got, want)
	}
	h.behind(t, "Unit")
	return got
}

// units does that many.
func (h *held) units(t *testing.T, n int) {
	t.Helper()
	for range n {
		h.unit(t)
	}
}

// all does units until there is nothing to do, and three more; it answers how many there were.
func (h *held) all(t *testing.T) int {
	t.Helper()
	n := 0
	for h.unit(t) {
		n++
		if n > 200000 {
			t.Fatal("P19.1: there are ever more units")
		}
	}
	for range 3 {
		if h.unit(t) || !h.tracer.Idle() || h.tracer.Page() != -1 {
			t.Fatal("P19.1: behind the last unit there is one, or it is not idle, or looks again")
		}
	}
	return n
}

// make makes an object with those fields, and answers where; -1: there is no room.
func (h *held) make(t *testing.T, fields ...api.Value) int {
	t.Helper()
	a, err := h.store.Slow(0, len(fields))
	if err != api.OK {
		return -1
	}
	h.plain.objects[a] = make([]api.Value, len(fields))
	for i, v := range fields {
		h.set(t, a, i, v)
	}
	return a
}

func (h *held) set(t *testing.T, a int, i int, v api.Value) {
	t.Helper()
	if !h.store.Set(a, i, v) {
		t.Fatalf("field %d of the object at %d can't be %v", i, a, v)
	}
	h.plain.objects[a][i] = v
}

func (h *held) free(t *testing.T, a int) {
	t.Helper()
	if !h.store.Free(a) {
		t.Fatalf("the object at %d can't be freed", a)
	}
	h.plain.objects[a] = nil
}

func (h *held) shade(t *testing.T, a int) {
	t.Helper()
	if got, want := h.grey.Shade(a), h.plain.shade(a); got != want {
		t.Fatalf("Shade(%d) = %t; want %t", a, got, want)
	}
	h.behind(t, "Shade")
}

func (h *held) black(t *testing.T, a int) {
	t.Helper()
	if got, want := h.grey.Black(a), !h.plain.marks[a]; got != want {
		t.Fatalf("Black(%d) = %t; want %t", a, got, want)
	}
	h.plain.marks[a] = true
	h.behind(t, "Black")
}

func (h *held) clear(t *testing.T, a int) {
	t.Helper()
	if got, want := h.grey.Clear(a), h.plain.marks[a]; got != want {
		t.Fatalf("Clear(%d) = %t; want %t", a, got, want)
	}
	h.plain.marks[a] = false
	h.behind(t, "Clear")
}

func (h *held) rest(t *testing.T, e stack.Entry) {
	t.Helper()
	if got, want := h.grey.Rest(e), h.plain.rest(e); got != want {
		t.Fatalf("Rest(%v) = %t; want %t", e, got, want)
	}
	h.behind(t, "Rest")
}

func (h *held) next(t *testing.T) {
	t.Helper()
	want, wantOk := h.plain.next()
	if got, ok := h.grey.Next(); got != want || ok != wantOk {
		t.Fatalf("Next() = %v, %t; want %v, %t", got, ok, want, wantOk)
	}
	h.behind(t, "Next")
}

func (h *held) settle(t *testing.T) {
	t.Helper()
	if got, want := h.grey.Settle(), h.plain.over; got != want {
		t.Fatalf("Settle() = %t; want %t", got, want)
	}
	h.plain.over = false
	h.behind(t, "Settle")
}

// lose notes a loss: entries of no object fill the room, and one more; then all but as many as waited are taken again.
func (h *held) lose(t *testing.T) {
	t.Helper()
	quiet := h.quiet
	h.quiet = true
	waited := len(h.plain.list)
	for range h.plain.room - waited + 1 {
		h.rest(t, entry(-1, 0))
	}
	for len(h.plain.list) > waited {
		h.next(t)
	}
	h.quiet = quiet
	h.behind(t, "a loss")
}

// fill lets entries of no object wait, until there is room for that many.
func (h *held) fill(t *testing.T, left int) {
	t.Helper()
	for len(h.plain.list) < h.plain.room-left {
		h.rest(t, entry(-1, 0))
	}
}

// distinct are n references, each to another address, from a on, none of them where an object stands.
func (h *held) distinct(n int, a int) []api.Value {
	var l []api.Value
	for ; len(l) < n; a++ {
		if h.plain.objects[a] == nil {
			l = append(l, ref(a))
		}
	}
	return l
}
