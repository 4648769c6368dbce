package stack_test

import (
	"math"
	"slices"
	"testing"

	"scutage/stack"
)

const (
	least    = math.MinInt64
	greatest = math.MaxInt64
	// most is the greatest room.
	most = 256
)

// entry is the entry of those numbers.
func entry(at int, from int) stack.Entry {
	return stack.Entry{At: at, From: from}
}

// edges are entries of numbers of each kind: addresses and fields, such as no object has, below 0, and as far out as can be.
func edges() []stack.Entry {
	numbers := []int{0, 1, -1, 126, 127, 2047, 2048, -2048, 1 << 31, 1 << 32, -1 << 32, 1<<40 - 1, least, least + 1, greatest, greatest - 1}
	var l []stack.Entry
	for i, n := range numbers {
		l = append(l, entry(n, numbers[(i*5+3)%len(numbers)]), entry(n, n), entry(n, 0), entry(0, n))
	}
	return l
}

// rooms are rooms that may be: few, around powers of two, and the most.
func rooms() []int {
	return []int{1, 2, 3, 4, 5, 7, 8, 9, 15, 16, 17, 31, 33, 64, 65, 127, 128, 129, 254, 255, 256}
}

// plain is what a stack must be: a list with room for so many.
type plain struct {
	room int
	list []stack.Entry
	over bool
}

func (m *plain) clone() *plain {
	return &plain{room: m.room, list: append([]stack.Entry{}, m.list...), over: m.over}
}

func (m *plain) push(e stack.Entry) bool {
	if len(m.list) == m.room {
		m.over = true
		return false
	}
	m.list = append(append([]stack.Entry{}, m.list...), e)
	return true
}

func (m *plain) pop() (stack.Entry, bool) {
	n := len(m.list)
	if n == 0 {
		return stack.Entry{}, false
	}
	e := m.list[n-1]
	m.list = append([]stack.Entry{}, m.list[:n-1]...)
	return e, true
}

func (m *plain) settle() bool {
	was := m.over
	m.over = false
	return was
}

// held is a stack, and the plain list that it is held against.
type held struct {
	stack *stack.Stack
	plain *plain
	// Between the calls that are looked at, only answers are held.
	quiet bool
}

func newHeld(room int) *held {
	return &held{stack: stack.New(room), plain: &plain{room: max(1, min(room, most))}}
}

// look asks all that tells and changes nothing.
func (h *held) look(t *testing.T, when string) {
	t.Helper()
	if got, want := h.stack.Len(), len(h.plain.list); got != want {
		t.Fatalf("P17.1: %s: Len() = %d; want %d", when, got, want)
	}
	if got, want := h.stack.Over(), h.plain.over; got != want {
		t.Fatalf("P17.1: %s: Over() = %t; want %t", when, got, want)
	}
	if got := h.stack.All(); !slices.Equal(got, h.plain.list) {
		t.Fatalf("P17.1: %s: All() = %v; want %v", when, got, h.plain.list)
	}
}

// check asks all that tells, and, on clones, what can be popped, pushed and settled.
func (h *held) check(t *testing.T, when string) {
	t.Helper()
	h.look(t, when)
	c := h.copied(t)
	c.settle(t)
	c.popAll(t)
	c.settle(t)
	c.look(t, when+", and all popped")
	c = h.copied(t)
	c.fill(t)
	c.look(t, when+", and filled")
	c.popAll(t)
	c.settle(t)
	c.settle(t)
	c.look(t, when+", and filled, popped and settled")
	h.look(t, when+", behind its clones")
}

// behind looks at the stack behind a call, unless it is one of those between.
func (h *held) behind(t *testing.T, call string) {
	t.Helper()
	if !h.quiet {
		h.look(t, "behind "+call)
	}
}

// Each of these calls the stack, and wants what the chapter says of such a one.

func (h *held) push(t *testing.T, e stack.Entry) bool {
	t.Helper()
	want := h.plain.push(e)
	got := h.stack.Push(e)
	if got != want {
		t.Fatalf("P17.1: with room for %d, Push(%v) = %t; want %t; there then: %d", h.plain.room, e, got, want, len(h.plain.list))
	}
	h.behind(t, "Push")
	return got
}

func (h *held) pop(t *testing.T) (stack.Entry, bool) {
	t.Helper()
	want, wantOk := h.plain.pop()
	got, ok := h.stack.Pop()
	if got != want || ok != wantOk {
		t.Fatalf("P17.1: Pop() = %v, %t; want %v, %t", got, ok, want, wantOk)
	}
	h.behind(t, "Pop")
	return got, ok
}

func (h *held) settle(t *testing.T) bool {
	t.Helper()
	want := h.plain.settle()
	got := h.stack.Settle()
	if got != want {
		t.Fatalf("P17.1: Settle() = %t; want %t", got, want)
	}
	h.behind(t, "Settle")
	return got
}

// clone is a clone, held against a list of its own.
func (h *held) clone(t *testing.T) *held {
	t.Helper()
	c := h.stack.Clone()
	if c == nil {
		t.Fatalf("P17.1: with room for %d, Clone() = nil", h.plain.room)
	}
	return &held{stack: c, plain: h.plain.clone(), quiet: h.quiet}
}

// copied is a clone, whose answers alone are held.
func (h *held) copied(t *testing.T) *held {
	t.Helper()
	c := h.clone(t)
	c.quiet = true
	return c
}

// pushes pushes all of those entries, one behind the other.
func (h *held) pushes(t *testing.T, l []stack.Entry) {
	t.Helper()
	for _, e := range l {
		h.push(t, e)
	}
}

// fill pushes other entries, until there is no room, and two more.
func (h *held) fill(t *testing.T) {
	t.Helper()
	for n := h.plain.room - len(h.plain.list) + 2; n > 0; n-- {
		h.push(t, entry(-n, 5000+n))
	}
}

// popAll pops until there is none, and once more.
func (h *held) popAll(t *testing.T) {
	t.Helper()
	for ok := true; ok; {
		_, ok = h.pop(t)
	}
	h.pop(t)
}

// some are n entries, each another.
func some(n int) []stack.Entry {
	var l []stack.Entry
	for i := range n {
		l = append(l, entry(2047-i*7, i*i))
	}
	return l
}

// The ways to lay a stack.
const (
	bare    = iota // nothing was done
	single         // one entry
	part           // about half of the room
	almost         // room for one more
	full           // no room
	over           // no room, and a loss noted
	popped         // a loss noted, and half of the entries popped
	emptied        // a loss noted, and all popped
	settled        // no room, and a loss settled
	anew           // settled, and lost again
	odd            // entries of numbers of each kind
	same           // the same entry many times
	ways           // how many there are
)

// laid is a stack with that room, made by the calls alone.
func laid(t *testing.T, room int, how int) *held {
	t.Helper()
	h := newHeld(room)
	h.quiet = true
	switch how {
	case single:
		h.pushes(t, some(1))
	case part:
		h.pushes(t, some((room+1)/2))
	case almost:
		h.pushes(t, some(room-1))
	case full:
		h.pushes(t, some(room))
	case over, popped, emptied, settled, anew:
		h.pushes(t, some(room+3))
	case odd:
		for i := range room - 1 {
			h.push(t, edges()[i%len(edges())])
		}
	case same:
		h.pushes(t, slices.Repeat([]stack.Entry{entry(64, 3)}, room))
	}
	switch how {
	case popped:
		for range (room + 1) / 2 {
			h.pop(t)
		}
	case emptied:
		h.popAll(t)
	case settled, anew:
		h.settle(t)
	}
	if how == anew {
		h.push(t, entry(1, 1))
	}
	h.quiet = false
	h.check(t, "laid")
	return h
}

// many are stacks of all of those rooms, laid in each way.
func many(t *testing.T, rooms []int) []*held {
	t.Helper()
	var l []*held
	for _, room := range rooms {
		for how := range ways {
			l = append(l, laid(t, room, how))
		}
	}
	return l
}
