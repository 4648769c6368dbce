package roots_test

import (
	"math"
	"slices"
	"testing"

	"scutage/api"
	"scutage/roots"
)

const (
	least    = math.MinInt64
	greatest = math.MaxInt64
	// most is how many values there may be.
	most = 16
)

// nothing, number and reference are the chapter's values, right ones and wrong ones.

func nothing() api.Value {
	return api.Value{}
}

func number(n int64) api.Value {
	return api.Value{Kind: 1, N: n}
}

func reference(a int64) api.Value {
	return api.Value{Kind: 2, N: a}
}

// rights are values that may be: each kind, each end, such as are another one when cut short, and the same N with each kind.
func rights() []api.Value {
	l := []api.Value{nothing()}
	for _, n := range []int64{0, 1, -1, 2, 5, -5, 127, 128, 255, 256, -128, -129, 1023, 1024, 2046, 2047, 2048, 1 << 15, 1<<16 + 5,
		1<<31 - 1, 1 << 31, -1 << 31, -1<<31 - 1, 1 << 32, 1<<32 + 5, -1 << 32, 1 << 39, 1<<40 - 2, 1<<40 - 1, -1<<40 + 1, -1 << 40} {
		l = append(l, number(n))
	}
	for _, a := range []int64{0, 1, 2, 5, 31, 32, 63, 64, 127, 128, 255, 256, 257, 1023, 1024, 1028, 1029, 2045, 2046, 2047} {
		l = append(l, reference(a))
	}
	return l
}

// wrongs are values that may not be: nothing with another number than 0, numbers and references beyond each end, and kinds that are none.
func wrongs() []api.Value {
	var l []api.Value
	for _, n := range []int64{1, -1, 2, 5, 256, 1 << 16, 1 << 32, -1 << 32, 1 << 40, -1 << 40, greatest, least} {
		l = append(l, api.Value{N: n})
	}
	for _, n := range []int64{1 << 40, 1<<40 + 1, -1<<40 - 1, -1<<40 - 2, 1 << 41, 1<<41 + 5, -1 << 41, 1 << 62, greatest, greatest - 1, least, least + 1} {
		l = append(l, number(n))
	}
	for _, a := range []int64{-1, -2, -5, -2047, -2048, 2048, 2049, 4096, 4101, 1 << 16, 1<<31 - 1, 1 << 32, 1<<32 + 5, -1 << 32, -1<<32 + 5, 1 << 40, greatest, least} {
		l = append(l, reference(a))
	}
	for _, kind := range []int{3, 4, 5, 9, 255, 256, 257, 258, -1, -2, -3, -254, -255, -256, 1 << 32, 1<<32 + 1, 1<<32 + 2, -1 << 32, -1<<32 + 1, greatest, greatest - 1, least, least + 1, least + 2} {
		for _, n := range []int64{0, 1, 5, -1, 2047, greatest, least} {
			l = append(l, api.Value{Kind: kind, N: n})
		}
	}
	return l
}

// far are numbers that no place has: such as are one when cut short, and as far out as can be.
func far() []int {
	l := []int{-5, -15, -16, -17, -64, -128, -255, -256, 18, 31, 32, 63, 64, 127, 128, 129, 255, 256, 257, 264, 1 << 16, 1<<16 + 1,
		1<<31 - 1, 1 << 31, -1 << 31, -1<<31 + 1, 1 << 32, 1<<32 + 1, 1<<32 + 8, 1<<32 + 15, -1 << 32, -1<<32 + 1,
		1 << 58, 1<<58 + 1, 1 << 60, 1<<61 + 1, 1 << 62, 1<<62 + 1, -1 << 62, -1<<62 + 1}
	for n := range 18 {
		l = append(l, greatest-n, least+n)
	}
	return l
}

// may tells whether v may be, by the words of chapter 3.
func may(v api.Value) bool {
	switch v.Kind {
	case 0:
		return v.N == 0
	case 1:
		return -1<<40 <= v.N && v.N <= 1<<40-1
	case 2:
		return 0 <= v.N && v.N <= 2047
	}
	return false
}

// plain is what roots must be: a list of at most 16 values, from the bottom on.
type plain struct {
	// None: there are no roots, and nothing can be told of them.
	none bool
	list []api.Value
}

func (m *plain) clone() *plain {
	return &plain{none: m.none, list: slices.Clone(m.list)}
}

func (m *plain) push(v api.Value) bool {
	if m.none || !may(v) || len(m.list) >= most {
		return false
	}
	m.list = append(m.list, v)
	return true
}

func (m *plain) pop() (api.Value, bool) {
	v, ok := m.get(len(m.list) - 1)
	if ok {
		m.list = slices.Clone(m.list[:len(m.list)-1])
	}
	return v, ok
}

func (m *plain) get(i int) (api.Value, bool) {
	for at, v := range m.list {
		if at == i {
			return v, true
		}
	}
	return nothing(), false
}

// refs are the addresses of references below which the same one does not stand.
func (m *plain) refs() []int {
	var l []int
	for i, v := range m.list {
		if v.Kind == 2 && slices.Index(m.list, v) == i {
			l = append(l, int(v.N))
		}
	}
	return l
}

// held is roots, and the plain list that they are held against.
type held struct {
	roots *roots.Roots
	plain *plain
	// Between the calls that are looked at, only answers are held.
	quiet bool
}

func newHeld() *held {
	return &held{roots: &roots.Roots{}, plain: &plain{}}
}

// checkGet asks Get of one place.
func (h *held) checkGet(t *testing.T, i int, when string) {
	t.Helper()
	want, ok := h.plain.get(i)
	if got, is := h.roots.Get(i); got != want || is != ok {
		t.Fatalf("P14.1: %s: of %v, Get(%d) = %v, %t; want %v, %t", when, h.plain.list, i, got, is, want, ok)
	}
}

// check asks all that tells, and Get of each place, and beyond each end.
func (h *held) check(t *testing.T, when string) {
	t.Helper()
	if got, want := h.roots.Len(), len(h.plain.list); got != want {
		t.Fatalf("P14.1: %s: of %v, Len() = %d; want %d", when, h.plain.list, got, want)
	}
	if got, want := h.roots.All(), h.plain.list; !slices.Equal(got, want) {
		t.Fatalf("P14.1: %s: All() = %v; want %v", when, got, want)
	}
	if got, want := h.roots.Refs(), h.plain.refs(); !slices.Equal(got, want) {
		t.Fatalf("P14.1: %s: of %v, Refs() = %v; want %v", when, h.plain.list, got, want)
	}
	for i := -2; i <= most+1; i++ {
		h.checkGet(t, i, when)
	}
}

// checkFar asks of places that no roots have.
func (h *held) checkFar(t *testing.T, when string) {
	t.Helper()
	for _, i := range far() {
		h.checkGet(t, i, when)
	}
}

// behind looks at all behind a call, unless it is one of those between.
func (h *held) behind(t *testing.T, call string) {
	t.Helper()
	if !h.quiet {
		h.check(t, "behind "+call)
	}
}

// Each of these calls the roots, and wants what the chapter says of such ones.

func (h *held) push(t *testing.T, v api.Value) bool {
	t.Helper()
	was := h.plain.list
	want := h.plain.push(v)
	got := h.roots.Push(v)
	if got != want {
		t.Fatalf("P14.1: of %v, Push(%v) = %t; want %t", was, v, got, want)
	}
	h.behind(t, "Push")
	return got
}

func (h *held) pop(t *testing.T) bool {
	t.Helper()
	was := h.plain.list
	want, ok := h.plain.pop()
	got, is := h.roots.Pop()
	if got != want || is != ok {
		t.Fatalf("P14.1: of %v, Pop() = %v, %t; want %v, %t", was, got, is, want, ok)
	}
	h.behind(t, "Pop")
	return is
}

func (h *held) clear(t *testing.T) {
	t.Helper()
	h.plain.list = nil
	h.roots.Clear()
	h.behind(t, "Clear")
}

// clone is a clone, held against a list of its own.
func (h *held) clone(t *testing.T) *held {
	t.Helper()
	c := h.roots.Clone()
	if c == nil {
		t.Fatalf("P14.1: of %v, Clone() = nil", h.plain.list)
	}
	return &held{roots: c, plain: h.plain.clone(), quiet: h.quiet}
}

// laid are roots that hold these values, made by Push alone.
func laid(t *testing.T, l ...api.Value) *held {
	t.Helper()
	h := newHeld()
	h.quiet = true
	for _, v := range l {
		if !h.push(t, v) {
			t.Fatalf("P14.1: of %v, Push(%v) = false; want true", h.plain.list, v)
		}
	}
	h.quiet = false
	h.check(t, "laid")
	return h
}

// The ways to fill roots.
const (
	same    = iota // the same reference
	rising         // references, each another one
	numbers        // numbers, each another one
	nothings
	mixed // each kind, some references again
	ways  // how many there are
)

// filled are n values, in one of the ways.
func filled(n int, how int) []api.Value {
	var l []api.Value
	for i := range n {
		k := int64(i)
		switch how {
		case same:
			l = append(l, reference(5))
		case rising:
			l = append(l, reference(7*k))
		case numbers:
			l = append(l, number(1<<40-1-k))
		case nothings:
			l = append(l, nothing())
		case mixed:
			l = append(l, []api.Value{reference(2047 - k%7), number(k - 8), nothing(), reference(k % 7)}[i%4])
		}
	}
	return l
}

// many are roots with each number of values, filled in each way.
func many(t *testing.T) []*held {
	t.Helper()
	var l []*held
	for n := range most + 1 {
		for how := range ways {
			l = append(l, laid(t, filled(n, how)...))
		}
	}
	return l
}
