package shade_test

import (
	"math"
	"slices"
	"testing"

	"scutage/shade"
	"scutage/stack"
)

const (
	least    = math.MinInt64
	greatest = math.MaxInt64
	// most is the greatest room.
	most = 256
	// addresses is how many there are: from 0 on.
	addresses = 2048
)

// entry is the entry of those numbers.
func entry(at int, from int) stack.Entry {
	return stack.Entry{At: at, From: from}
}

// outside are numbers that are no address: next to each end, and as far out as can be.
func outside() []int {
	return []int{-1, -2, -63, -64, -65, -2047, -2048, -1 << 31, -1 << 32, -1<<32 + 5, least, least + 1, least + 64,
		2048, 2049, 2111, 2112, 4096, 65536, 1 << 31, 1 << 32, 1<<32 + 5, 1 << 62, greatest - 1, greatest}
}

// oddEntries are entries of numbers of each kind: addresses and fields, such as no object has, below 0, and as far out as can be.
func oddEntries() []stack.Entry {
	numbers := []int{0, 1, -1, 126, 127, 2047, 2048, -2048, 1 << 31, 1 << 32, -1 << 32, 1<<40 - 1, least, least + 1, greatest, greatest - 1}
	var l []stack.Entry
	for i, n := range numbers {
		l = append(l, entry(n, numbers[(i*5+3)%len(numbers)]), entry(n, n), entry(n, 0), entry(0, n))
	}
	return l
}

// rooms are rooms that may be: few, around powers of two, and the most.
func rooms() []int {
	return []int{1, 2, 3, 5, 8, 17, 64, 127, 255, 256}
}

// plain is what a grey must be: plain marks, and a list with room for so many.
type plain struct {
	marks [addresses]bool
	room  int
	list  []stack.Entry
	over  bool
}

func (m *plain) clone() *plain {
	c := *m
	c.list = append([]stack.Entry{}, m.list...)
	return &c
}

func (m *plain) is(a int) bool {
	return a >= 0 && a < addresses && m.marks[a]
}

func (m *plain) black(a int) bool {
	if a < 0 || a >= addresses || m.marks[a] {
		return false
	}
	m.marks[a] = true
	return true
}

func (m *plain) rest(e stack.Entry) bool {
	if len(m.list) == m.room {
		m.over = true
		return false
	}
	m.list = append(append([]stack.Entry{}, m.list...), e)
	return true
}

func (m *plain) shade(a int) bool {
	if !m.black(a) {
		return false
	}
	m.rest(stack.Entry{At: a, From: 0})
	return true
}

func (m *plain) clear(a int) bool {
	if !m.is(a) {
		return false
	}
	m.marks[a] = false
	return true
}

func (m *plain) next() (stack.Entry, bool) {
	n := len(m.list)
	if n == 0 {
		return stack.Entry{}, false
	}
	e := m.list[n-1]
	m.list = append([]stack.Entry{}, m.list[:n-1]...)
	return e, true
}

func (m *plain) settle() bool {
	was := m.over
	m.over = false
	return was
}

func (m *plain) all() []int {
	var l []int
	for a, marked := range m.marks {
		if marked {
			l = append(l, a)
		}
	}
	return l
}

// held is a grey, and the plain one that it is held against.
type held struct {
	grey  *shade.Grey
	plain *plain
	// Between the calls that are looked at, only answers are held.
	quiet bool
}

func newHeld(room int) *held {
	return &held{grey: shade.New(room), plain: &plain{room: max(1, min(room, most))}}
}

// glance asks all that tells and changes nothing, but for Is of each address.
func (h *held) glance(t *testing.T, when string) {
	t.Helper()
	all := h.plain.all()
	if got := h.grey.Count(); got != len(all) {
		t.Fatalf("P18.1: %s: Count() = %d; want %d", when, got, len(all))
	}
	if got := h.grey.All(); !slices.Equal(got, all) {
		t.Fatalf("P18.1: %s: All() = %v; want %v", when, got, all)
	}
	if got, want := h.grey.Waiting(), len(h.plain.list); got != want {
		t.Fatalf("P18.1: %s: Waiting() = %d; want %d", when, got, want)
	}
	if got, want := h.grey.Over(), h.plain.over; got != want {
		t.Fatalf("P18.1: %s: Over() = %t; want %t", when, got, want)
	}
}

// look asks all that tells and changes nothing.
func (h *held) look(t *testing.T, when string) {
	t.Helper()
	h.glance(t, when)
	for a := -3; a < addresses+3; a++ {
		if got, want := h.grey.Is(a), h.plain.is(a); got != want {
			t.Fatalf("P18.1: %s: Is(%d) = %t; want %t", when, a, got, want)
		}
	}
	for _, a := range outside() {
		if h.grey.Is(a) {
			t.Fatalf("P18.1: %s: Is(%d) = true", when, a)
		}
	}
}

// check asks all that tells, and, on clones, what waits, and what room there is.
func (h *held) check(t *testing.T, when string) {
	t.Helper()
	h.look(t, when)
	c := h.copied(t)
	c.settle(t)
	c.nextAll(t)
	c.settle(t)
	c.look(t, when+", and all gone through")
	c = h.copied(t)
	c.fill(t)
	c.glance(t, when+", and filled")
	c.nextAll(t)
	c.settle(t)
	c.settle(t)
	c.look(t, when+", and filled, gone through and settled")
	h.glance(t, when+", behind its clones")
}

// behind glances at the grey behind a call, unless it is one of those between.
func (h *held) behind(t *testing.T, call string) {
	t.Helper()
	if !h.quiet {
		h.glance(t, "behind "+call)
	}
}

// Each of these calls the grey, and wants what the chapter says of such a one.

func (h *held) shade(t *testing.T, a int) bool {
	t.Helper()
	want := h.plain.shade(a)
	got := h.grey.Shade(a)
	if got != want || h.grey.Is(a) != h.plain.is(a) {
		t.Fatalf("P18.1: Shade(%d) = %t; want %t; Is of it = %t; want %t", a, got, want, h.grey.Is(a), h.plain.is(a))
	}
	h.behind(t, "Shade")
	return got
}

func (h *held) black(t *testing.T, a int) bool {
	t.Helper()
	want := h.plain.black(a)
	got := h.grey.Black(a)
	if got != want || h.grey.Is(a) != h.plain.is(a) {
		t.Fatalf("P18.1: Black(%d) = %t; want %t; Is of it = %t; want %t", a, got, want, h.grey.Is(a), h.plain.is(a))
	}
	h.behind(t, "Black")
	return got
}

func (h *held) clear(t *testing.T, a int) bool {
	t.Helper()
	want := h.plain.clear(a)
	got := h.grey.Clear(a)
	if got != want || h.grey.Is(a) {
		t.Fatalf("P18.1: Clear(%d) = %t; want %t; Is of it = %t; want false", a, got, want, h.grey.Is(a))
	}
	h.behind(t, "Clear")
	return got
}

func (h *held) next(t *testing.T) (stack.Entry, bool) {
	t.Helper()
	want, wantOk := h.plain.next()
	got, ok := h.grey.Next()
	if got != want || ok != wantOk {
		t.Fatalf("P18.1: Next() = %v, %t; want %v, %t", got, ok, want, wantOk)
	}
	h.behind(t, "Next")
	return got, ok
}

func (h *held) rest(t *testing.T, e stack.Entry) bool {
	t.Helper()
	want := h.plain.rest(e)
	got := h.grey.Rest(e)
	if got != want {
		t.Fatalf("P18.1: with room for %d, Rest(%v) = %t; want %t; waiting then: %d", h.plain.room, e, got, want, len(h.plain.list))
	}
	h.behind(t, "Rest")
	return got
}

func (h *held) settle(t *testing.T) bool {
	t.Helper()
	want := h.plain.settle()
	got := h.grey.Settle()
	if got != want {
		t.Fatalf("P18.1: Settle() = %t; want %t", got, want)
	}
	h.behind(t, "Settle")
	return got
}

// clone is a clone, held against a plain one of its own.
func (h *held) clone(t *testing.T) *held {
	t.Helper()
	c := h.grey.Clone()
	if c == nil {
		t.Fatalf("P18.1: with room for %d, Clone() = nil", h.plain.room)
	}
	return &held{grey: c, plain: h.plain.clone(), quiet: h.quiet}
}

// copied is a clone, whose answers alone are held.
func (h *held) copied(t *testing.T) *held {
	t.Helper()
	c := h.clone(t)
	c.quiet = true
	return c
}

// shades shades all of those addresses, one behind the other.
func (h *held) shades(t *testing.T, l []int) {
	t.Helper()
	for _, a := range l {
		h.shade(t, a)
	}
}

// fill lets other entries wait, until there is no room, and two more.
func (h *held) fill(t *testing.T) {
	t.Helper()
	for n := h.plain.room - len(h.plain.list) + 2; n > 0; n-- {
		h.rest(t, entry(-n, 5000+n))
	}
}

// nextAll takes what waits, until there is none, and once more.
func (h *held) nextAll(t *testing.T) {
	t.Helper()
	for ok := true; ok; {
		_, ok = h.next(t)
	}
	h.next(t)
}

// some are n addresses, each another, neither rising nor falling; the least and the greatest first.
func some(n int) []int {
	l := []int{2047, 0}
	for i := 1; len(l) < addresses; i++ {
		if a := i * 773 % addresses; a != 2047 && a != 0 {
			l = append(l, a)
		}
	}
	return l[:n]
}

// The ways to lay a grey.
const (
	bare    = iota // nothing was done
	single         // one mark, which waits
	blacks         // marks, and nothing waits
	part           // about half of the room waits
	almost         // room for one more
	full           // no room
	over           // no room, and a loss noted
	taken          // a loss noted, and half of what waited taken
	emptied        // a loss noted, and all taken
	settled        // no room, and a loss settled
	cleared        // what waits is not marked
	mixed          // marks that wait and such that don't, and a few cleared
	odd            // entries of numbers of each kind
	whole          // all addresses are marked
	ways           // how many there are
)

// laid is a grey with that room, made by the calls alone.
func laid(t *testing.T, room int, how int) *held {
	t.Helper()
	h := newHeld(room)
	h.quiet = true
	switch how {
	case single:
		h.shade(t, 2047)
	case blacks:
		for _, a := range some(100) {
			h.black(t, a)
		}
	case part:
		h.shades(t, some((room+1)/2))
	case almost:
		h.shades(t, some(room-1))
	case full, cleared:
		h.shades(t, some(room))
	case over, taken, emptied, settled:
		h.shades(t, some(room+3))
	case mixed:
		h.mix(t)
	case odd:
		for i := range room - 1 {
			h.rest(t, oddEntries()[i%len(oddEntries())])
		}
	case whole:
		h.shades(t, some(addresses))
	}
	switch how {
	case taken:
		for range (room + 1) / 2 {
			h.next(t)
		}
	case emptied:
		h.nextAll(t)
	case settled:
		h.settle(t)
	case cleared:
		for _, a := range some(room) {
			h.clear(t, a)
		}
	}
	h.quiet = false
	h.check(t, "laid")
	return h
}

// mix marks many addresses in either way, clears a few, and leaves a few to wait.
func (h *held) mix(t *testing.T) {
	t.Helper()
	for i, a := range some(200) {
		switch i % 4 {
		case 0:
			h.shade(t, a)
		case 3:
			h.clear(t, some(200)[i/2])
		default:
			h.black(t, a)
		}
		if i%8 == 6 {
			h.next(t)
		}
	}
}

// many are greys of all of those rooms, laid in each way.
func many(t *testing.T, rooms []int) []*held {
	t.Helper()
	var l []*held
	for _, room := range rooms {
		for how := range ways {
			l = append(l, laid(t, room, how))
		}
	}
	return l
}
