package buffer_test

import (
	"math/bits"
	"slices"
	"testing"

	"scutage/buffer"
)

// TestExample: the chapter's: put the same address twice: the second time false.
func TestExample(t *testing.T) {
	b := buffer.New(1)
	if !b.Put(0, 9) || b.Put(0, 9) {
		t.Error("P16.1: Put(0, 9), twice, is not true and false")
	}
}

// TestWrittenOut: buffers worked out by hand from the chapter.
func TestWrittenOut(t *testing.T) {
	b := buffer.New(3)
	tell := func(when string, lens [3]int) {
		t.Helper()
		got := [3]int{b.Len(0), b.Len(1), b.Len(2)}
		if got != lens || b.Empty() != (lens == [3]int{}) {
			t.Errorf("P16.1: %s: Len of each thread is %v, Empty() = %t; want %v, %t", when, got, b.Empty(), lens, lens == [3]int{})
		}
	}
	put := func(thread int, a int, want bool) {
		t.Helper()
		if got := b.Put(thread, a); got != want {
			t.Errorf("P16.1: Put(%d, %d) = %t; want %t", thread, a, got, want)
		}
	}
	take := func(thread int, want ...int) {
		t.Helper()
		if got := b.Take(thread); !slices.Equal(got, want) {
			t.Errorf("P16.1: Take(%d) = %v; want %v", thread, got, want)
		}
	}
	tell("new", [3]int{})
	put(2, 2047, true)
	put(2, 0, true)
	put(2, 2047, false)
	put(2, 2048, false)
	put(2, -1, false)
	put(3, 0, false)
	put(-1, 0, false)
	put(0, 2047, true)
	put(2, 64, true)
	tell("some were put", [3]int{1, 0, 3})
	take(1)
	take(3)
	take(2, 2047, 0, 64)
	take(2)
	tell("one was taken", [3]int{1, 0, 0})
	put(2, 64, true)
	put(2, 2047, true)
	put(0, 2047, false)
	put(1, 2047, true)
	tell("put again", [3]int{1, 1, 2})
	c := b.Clone()
	if got := b.Clear(); got != 4 {
		t.Errorf("P16.1: Clear() = %d; want 4", got)
	}
	tell("cleared", [3]int{})
	put(0, 2047, true)
	tell("put behind Clear", [3]int{1, 0, 0})
	b = c
	tell("the clone", [3]int{1, 1, 2})
	take(2, 64, 2047)
	take(1, 2047)
	take(0, 2047)
	tell("the clone, taken", [3]int{})
	if got := b.Clear(); got != 0 {
		t.Errorf("P16.1: of none, Clear() = %d; want 0", got)
	}
}

// nearest is the number of threads that may be and is nearest to n.
func nearest(n int) int {
	return max(0, min(n, most))
}

// TestNew: each number of threads, beyond each end, and far out; all are empty.
func TestNew(t *testing.T) {
	numbers := append(append(near(), -5, -100, 100), strangers()...)
	for _, n := range numbers {
		h := &held{buffers: buffer.New(n), plain: newPlain(nearest(n))}
		if h.buffers == nil {
			t.Fatalf("P16.1: New(%d) = nil", n)
		}
		h.check(t, "new")
		h.checkLen(t, strangers(), "new")
		h.clone(t).check(t, "a clone of new ones")
		if !h.buffers.Empty() || h.buffers.Clear() != 0 {
			t.Fatalf("P16.1: New(%d) is not empty", n)
		}
		for _, thread := range near() {
			if got, want := h.put(t, thread, 3), thread >= 0 && thread < nearest(n); got != want {
				t.Fatalf("P16.1: of New(%d), Put(%d, 3) = %t; want %t", n, thread, got, want)
			}
		}
		if got := h.clear(t); got != nearest(n) {
			t.Fatalf("P16.1: of New(%d), %d threads have buffers; want %d", n, got, nearest(n))
		}
	}
}

// TestNoThreads: buffers of none are such as New made: they can be cloned.
func TestNoThreads(t *testing.T) {
	for _, n := range []int{0, -1, least} {
		c := buffer.New(n).Clone()
		if c == nil || c.Put(0, 0) || len(c.Take(0)) != 0 || c.Len(0) != 0 || !c.Empty() || c.Clear() != 0 || c.Clone() == nil {
			t.Errorf("P16.1: of New(%d), the clone is none, or has threads", n)
		}
	}
}

// TestPut: each thread, one beyond each end, and far out; addresses at the ends, just beyond them, and far out; each once and once more.
func TestPut(t *testing.T) {
	for n := range most + 1 {
		h := newHeld(n)
		for _, thread := range append(near(), strangers()...) {
			there := thread >= 0 && thread < n
			h.quiet = !there
			for _, a := range []int{0, 2047, -1, 2048, least, greatest} {
				want := there && (a == 0 || a == 2047)
				if h.put(t, thread, a) != want || h.put(t, thread, a) {
					t.Fatalf("P16.1: of %d threads, Put(%d, %d), once and once more, is not %t and false", n, thread, a, want)
				}
			}
			h.quiet = true
			for _, a := range append(edges(), beyond()...) {
				h.put(t, thread, a)
				h.put(t, thread, a)
			}
			h.check(t, "edges were put")
		}
	}
}

// TestEachAddress: each address of all, alone and in another thread too, behind Take and behind Clear.
func TestEachAddress(t *testing.T) {
	for a := range words {
		thread := a % most
		other := (a + 3) % most
		b := buffer.New(most)
		if !b.Put(thread, a) || b.Put(thread, a) || !b.Put(other, a) || b.Put(other, a) {
			t.Fatalf("P16.1: Put of %d, in two threads, each twice, is not true and false", a)
		}
		if got := b.Take(thread); !slices.Equal(got, []int{a}) || b.Len(thread) != 0 || b.Len(other) != 1 || b.Put(other, a) {
			t.Fatalf("P16.1: Take(%d) = %v; want %d alone, and the other thread's stays", thread, got, a)
		}
		if !b.Put(thread, a) || b.Put(thread, a) {
			t.Fatalf("P16.1: behind Take, Put(%d, %d), twice, is not true and false", thread, a)
		}
		if got := b.Clear(); got != 2 || !b.Put(thread, a) || !b.Put(other, a) || b.Put(thread, a) || b.Put(other, a) {
			t.Fatalf("P16.1: Clear() = %d, want 2; behind it, Put of %d in two threads, each twice, is true and false", got, a)
		}
		if got := [2][]int{b.Take(other), b.Take(thread)}; !slices.Equal(got[0], []int{a}) || !slices.Equal(got[1], []int{a}) || !b.Empty() {
			t.Fatalf("P16.1: Take of two threads tells %v; want %d each", got, a)
		}
	}
}

// TestSameAddress: once more in the same thread, in each other one, behind Take and behind Clear.
func TestSameAddress(t *testing.T) {
	for thread := range most {
		for other := range most {
			h := newHeld(most)
			h.puts(t, thread, []int{5, 0, 2047})
			for _, a := range []int{0, 5, 2047} {
				if h.put(t, thread, a) {
					t.Fatalf("P16.1: Put(%d, %d) once more = true", thread, a)
				}
				if got, want := h.put(t, other, a), other != thread; got != want {
					t.Fatalf("P16.1: Put(%d, %d) stands in thread %d: Put(%d, %d) = %t; want %t", thread, a, thread, other, a, got, want)
				}
			}
			h.take(t, thread)
			for _, a := range []int{2047, 5, 0} {
				if !h.put(t, thread, a) || h.put(t, thread, a) || h.put(t, other, a) {
					t.Fatalf("P16.1: behind Take(%d), Put of %d is not true, and false of what stands", thread, a)
				}
			}
			h.clear(t)
			for _, a := range []int{0, 2047, 5} {
				if !h.put(t, other, a) || h.put(t, other, a) {
					t.Fatalf("P16.1: behind Clear, Put(%d, %d), twice, is not true and false", other, a)
				}
			}
		}
	}
}

// TestPutRefusedChangesNothing: what is refused leaves all that is told as it was.
func TestPutRefusedChangesNothing(t *testing.T) {
	for _, h := range many(t) {
		c := h.clone(t)
		c.quiet = true
		for _, thread := range append(near(), strangers()...) {
			tried := append(beyond(), h.plain.of(thread)...)
			if thread < 0 || thread >= len(h.plain.lists) {
				tried = append(tried, edges()...)
			}
			for _, a := range tried {
				if c.put(t, thread, a) {
					t.Fatalf("P16.1: Put(%d, %d) = true", thread, a)
				}
			}
			c.plain = h.plain
			c.checkLen(t, near(), "refused")
		}
		c.check(t, "all were refused")
	}
}

// TestTake: each thread, and beyond each end, with none, one and many; once more it tells nothing, and the others' stay.
func TestTake(t *testing.T) {
	for n := range most + 1 {
		for how := range ways {
			for _, thread := range append(near(), 9, 256, 1<<32, greatest, least) {
				h := laid(t, n, how)
				want := slices.Clone(h.plain.of(thread))
				if got := h.take(t, thread); !slices.Equal(got, want) {
					t.Fatalf("P16.1: Take(%d) = %v; want %v", thread, got, want)
				}
				if got := h.take(t, thread); len(got) != 0 {
					t.Fatalf("P16.1: Take(%d) once more = %v; want nothing", thread, got)
				}
				h.put(t, thread, 6)
				h.puts(t, thread, want)
			}
		}
	}
}

// TestTakeFar: threads far beyond each end: nothing, and nothing changes.
func TestTakeFar(t *testing.T) {
	for _, h := range many(t) {
		h.quiet = true
		for _, thread := range strangers() {
			if got := h.take(t, thread); len(got) != 0 {
				t.Fatalf("P16.1: Take(%d) = %v; want nothing", thread, got)
			}
		}
		h.check(t, "far threads were taken")
		h.checkLen(t, strangers(), "far threads were taken")
	}
}

// TestTakeByTurns: all threads, from each one on, upward and downward, till all are empty.
func TestTakeByTurns(t *testing.T) {
	for n := 1; n <= most; n++ {
		for from := range n {
			for _, step := range []int{1, n - 1} {
				h := laid(t, n, edge)
				for i := range n {
					h.take(t, (from+i*step)%n)
				}
				if step == 1 && !h.buffers.Empty() {
					t.Fatal("P16.1: all were taken, and Empty() = false")
				}
			}
		}
	}
}

// orders are all orders of l.
func orders(l []int) [][]int {
	if len(l) == 0 {
		return [][]int{nil}
	}
	var all [][]int
	for _, o := range orders(l[1:]) {
		for at := range l {
			all = append(all, slices.Insert(slices.Clone(o), at, l[0]))
		}
	}
	return all
}

// TestOrder: up to five addresses in each order: told as they were put.
func TestOrder(t *testing.T) {
	addresses := []int{0, 2047, 64, 1, 1000}
	for n := range len(addresses) + 1 {
		for i, order := range orders(addresses[:n]) {
			b := buffer.New(most)
			for _, a := range order {
				b.Put(i%most, a)
			}
			// What stands there does not go to the end once more.
			for _, a := range addresses[:n] {
				b.Put(i%most, a)
			}
			if got := b.Take(i % most); !slices.Equal(got, order) {
				t.Fatalf("P16.1: Take tells %v; want %v", got, order)
			}
		}
	}
}

// TestLen: each thread, one more address at a time, in threads of any, and beyond each end.
func TestLen(t *testing.T) {
	for _, h := range many(t) {
		h.checkLen(t, append(near(), strangers()...), "asked")
		h.check(t, "asked again")
	}
	for thread := range most {
		h := newHeld(most)
		h.quiet = true
		for i := range 40 {
			if got := h.buffers.Len(thread); got != i {
				t.Fatalf("P16.1: %d were put: Len(%d) = %d", i, thread, got)
			}
			h.put(t, thread, 51*i)
			h.checkLen(t, append(near(), strangers()...), "put")
		}
	}
}

// TestEmpty: with none, with one address in each single thread and in each set of threads, and behind Take and Clear.
func TestEmpty(t *testing.T) {
	for n := range most + 1 {
		if b := buffer.New(n); !b.Empty() || b.Clear() != 0 || !b.Empty() {
			t.Fatalf("P16.1: of New(%d), Empty() is not true, or not behind Clear", n)
		}
		for thread := range n {
			for _, a := range edges() {
				b := buffer.New(n)
				if !b.Put(thread, a) || b.Empty() {
					t.Fatalf("P16.1: behind Put(%d, %d), Empty() = true", thread, a)
				}
				if b.Take(thread); !b.Empty() {
					t.Fatalf("P16.1: behind Take(%d), Empty() = false", thread)
				}
				if !b.Put(thread, a) || b.Empty() {
					t.Fatalf("P16.1: behind Take and Put(%d, %d), Empty() = true", thread, a)
				}
				if got := b.Clear(); got != 1 || !b.Empty() {
					t.Fatalf("P16.1: Clear() = %d, Empty() = %t; want 1, true", got, b.Empty())
				}
			}
		}
	}
	for set := range 1 << most {
		h := newHeld(most)
		h.quiet = true
		for thread := range most {
			if set>>thread&1 == 1 {
				h.put(t, thread, 2*thread)
			}
		}
		h.check(t, "each set of threads")
		if got, want := h.buffers.Empty(), set == 0; got != want {
			t.Fatalf("P16.1: of threads %08b, Empty() = %t; want %t", set, got, want)
		}
		c := h.clone(t)
		if got := c.clear(t); got != bits.OnesCount(uint(set)) {
			t.Fatalf("P16.1: of threads %08b, Clear() = %d", set, got)
		}
		// The last one that is taken is the last that kept it from being empty.
		for left := set; left != 0; left &= left - 1 {
			h.take(t, bits.TrailingZeros(uint(left)))
			if got, want := h.buffers.Empty(), left&(left-1) == 0; got != want {
				t.Fatalf("P16.1: of threads %08b are left %08b: Empty() = %t; want %t", set, left&(left-1), got, want)
			}
		}
	}
}

// TestClear: with none and with some in several threads: how many stood in all, and all are empty then.
func TestClear(t *testing.T) {
	for _, h := range many(t) {
		want := 0
		for thread := range most {
			want += h.buffers.Len(thread)
		}
		was := h.plain.clone()
		if got := h.clear(t); got != want || !h.buffers.Empty() {
			t.Fatalf("P16.1: of %v, Clear() = %d, Empty() = %t; want %d, true", was.lists, got, h.buffers.Empty(), want)
		}
		if got := h.clear(t); got != 0 {
			t.Fatalf("P16.1: Clear() once more = %d; want 0", got)
		}
		for thread := range most {
			if got := h.take(t, thread); len(got) != 0 {
				t.Fatalf("P16.1: behind Clear, Take(%d) = %v; want nothing", thread, got)
			}
		}
		for thread, l := range was.lists {
			slices.Reverse(l)
			h.quiet = true
			h.puts(t, thread, l)
		}
		h.check(t, "put once more, the other way about")
	}
}

// whole are all addresses, in one of some orders.
func whole() [][]int {
	l := make([][]int, 4)
	for a := range words {
		l[0] = append(l[0], a)
		l[1] = append(l[1], words-1-a)
		// These numbers are odd: so each address is met once.
		l[2] = append(l[2], (a*1021+77)%words)
		l[3] = append(l[3], (words-1-a*333%words)^5)
	}
	return l
}

// TestFull: a thread that has all addresses, in rising, falling and mixed order, alone, beside others that have some, and beside others that have all.
func TestFull(t *testing.T) {
	for i, order := range whole() {
		for _, thread := range []int{0, 3, most - 1} {
			b := buffer.New(most)
			other := (thread + 1) % most
			b.Put(other, 9)
			for at, a := range order {
				if !b.Put(thread, a) || b.Put(thread, order[at/2]) || b.Len(thread) != at+1 {
					t.Fatalf("P16.1: order %d: Put(%d, %d) = false, or Len is not %d", i, thread, a, at+1)
				}
			}
			for a := -1; a <= words; a++ {
				if b.Put(thread, a) {
					t.Fatalf("P16.1: all stand there, and Put(%d, %d) = true", thread, a)
				}
			}
			c := b.Clone()
			if got := b.Take(thread); !slices.Equal(got, order) || b.Len(thread) != 0 || b.Len(other) != 1 || b.Empty() {
				t.Fatalf("P16.1: order %d: Take(%d) tells %d addresses, not those that were put, as they were put", i, thread, len(got))
			}
			if b.Put(other, 9) || !b.Put(thread, 9) || b.Clear() != 2 {
				t.Fatal("P16.1: behind Take of all, Put is not as it was, or Clear is not 2")
			}
			if c.Len(thread) != words || c.Clear() != words+1 || !c.Empty() || !c.Put(thread, 0) {
				t.Fatal("P16.1: a clone of all addresses can't be cleared, or put into then")
			}
		}
	}
}

// TestAllFull: each thread has all addresses.
func TestAllFull(t *testing.T) {
	lists := whole()
	b := buffer.New(most)
	for thread := range most {
		for _, a := range lists[thread%len(lists)] {
			if !b.Put(thread, a) {
				t.Fatalf("P16.1: Put(%d, %d) = false", thread, a)
			}
		}
	}
	c := b.Clone()
	for thread := range most {
		if b.Len(thread) != words || b.Put(thread, 0) || b.Put(thread, words-1) || b.Put(thread, words) {
			t.Fatalf("P16.1: all stand there, and Len(%d) = %d, or one more can be put", thread, b.Len(thread))
		}
		if got := b.Take(thread); !slices.Equal(got, lists[thread%len(lists)]) || b.Empty() != (thread == most-1) {
			t.Fatalf("P16.1: Take(%d) tells %d addresses, not as they were put, or Empty() = %t", thread, len(got), b.Empty())
		}
	}
	if got := c.Clear(); got != most*words || !c.Empty() {
		t.Fatalf("P16.1: of all threads and addresses, Clear() = %d, Empty() = %t; want %d, true", got, c.Empty(), most*words)
	}
}

// spoil writes on all of l, behind its end too, and then appends to it.
func spoil(l []int) {
	l = l[:cap(l)]
	for i := range l {
		l[i] = 77
	}
	_ = append(l[:len(l)/2], 78, 79, 80)
}

// TestAnswersApart: P2: what Take tells can be written on and appended to; neither the buffers, nor the clone, nor what was told else changes.
func TestAnswersApart(t *testing.T) {
	for _, h := range many(t) {
		c := h.clone(t)
		var told, wanted [][]int
		for thread := range h.plain.lists {
			want := slices.Clone(h.plain.of(thread))
			got := h.take(t, thread)
			told, wanted = append(told, got), append(wanted, want)
			// Another answer of the same addresses, from a clone.
			again := c.clone(t).take(t, thread)
			spoil(again)
			c.check(t, "what a clone's clone told was written on")
			h.puts(t, thread, want)
			h.put(t, thread, 11)
			for i := range told {
				if !slices.Equal(told[i], wanted[i]) {
					t.Fatalf("P2: what Take told, %v, changed to %v", wanted[i], told[i])
				}
			}
		}
		h.check(t, "put once more")
		for i := range told {
			spoil(told[i])
			h.check(t, "what Take told was written on")
			c.check(t, "what Take told was written on")
			for j := i + 1; j < len(told); j++ {
				if !slices.Equal(told[j], wanted[j]) {
					t.Fatalf("P2: two answers of Take share memory: %v; want %v", told[j], wanted[j])
				}
			}
		}
		h.clear(t)
		c.check(t, "the buffers were cleared")
	}
}

// TestAppended: P2: who appends to what Take told, and puts, by turns, gets just what was put.
func TestAppended(t *testing.T) {
	b := buffer.New(1)
	for n := range 70 {
		for a := range n {
			b.Put(0, a)
		}
		l := b.Take(0)
		l = append(l, 500)
		b.Put(0, 501)
		l = append(l, 502)
		b.Put(0, 503)
		if want := []int{500, 502}; !slices.Equal(l[n:], want) {
			t.Fatalf("P2: what was appended to %d addresses is %v; want %v", n, l[n:], want)
		}
		l[0] = 504
		if got, want := b.Take(0), []int{501, 503}; !slices.Equal(got, want) {
			t.Fatalf("P2: behind that, Take tells %v; want %v", got, want)
		}
	}
}

// call is one call, of those that change buffers.
type call struct {
	name   string
	thread int
	a      int
}

// do calls it.
func (c call) do(t *testing.T, h *held) {
	t.Helper()
	switch c.name {
	case "Put":
		h.put(t, c.thread, c.a)
	case "Take":
		h.take(t, c.thread)
	case "Clear":
		h.clear(t)
	}
}

// calls are all calls that change buffers, of threads up to one beyond each end, and of those addresses.
func calls(threads int, addresses ...int) []call {
	l := []call{{"Clear", 0, 0}}
	for thread := -1; thread <= threads; thread++ {
		l = append(l, call{"Take", thread, 0})
		for _, a := range addresses {
			l = append(l, call{"Put", thread, a})
		}
	}
	return l
}

// TestShortScripts: all scripts of few calls, of buffers of up to two threads, and of few addresses.
func TestShortScripts(t *testing.T) {
	for _, k := range []struct {
		length int
		list   []call
		n      int
	}{
		{3, calls(0, -1, 0, 2047), 0},
		{4, calls(1, 0, 2047), 1},
		{3, calls(1, -1, 0, 1, 2047, 2048), 1},
		{3, calls(2, 0, 5), 2},
		{2, calls(2, -1, 0, 5, 2047, 2048), 2},
	} {
		var from func(h *held, left int)
		from = func(h *held, left int) {
			for _, c := range k.list {
				next := h.clone(t)
				c.do(t, next)
				if left > 1 {
					from(next, left-1)
				}
			}
			h.check(t, "clones went on")
		}
		from(newHeld(k.n), k.length)
	}
}

// TestCloneApart: the buffers go on and the clone stays; the clone goes on and the buffers stay; and the clone's clone.
func TestCloneApart(t *testing.T) {
	for _, h := range many(t) {
		for _, do := range calls(len(h.plain.lists), 0, 6, 2047) {
			h.quiet = true
			a := h.clone(t)
			b := a.clone(t)
			c := b.clone(t)
			do.do(t, a)
			a.check(t, "the buffers went on: "+do.name)
			b.check(t, "the buffers went on: "+do.name)
			do.do(t, b)
			a.check(t, "the clone went on: "+do.name)
			c.check(t, "the clone went on: "+do.name)
			c.put(t, 0, 1999)
			do.do(t, c)
			a.check(t, "the clone's clone went on: "+do.name)
			b.check(t, "the clone's clone went on: "+do.name)
		}
		h.check(t, "its clones went on")
	}
}

// TestClonePutByTurns: P2: one more address in the buffers, and another in the clone, of lists of each length: each has its own.
func TestClonePutByTurns(t *testing.T) {
	for n := range 70 {
		for _, cloneFirst := range []bool{true, false} {
			b := buffer.New(2)
			for a := range n {
				b.Put(1, a)
			}
			c := b.Clone()
			one, other := b, c
			if cloneFirst {
				one, other = c, b
			}
			one.Put(1, 100)
			other.Put(1, 200)
			one.Put(1, 101)
			gotOne, gotOther := one.Take(1), other.Take(1)
			if !slices.Equal(gotOne[n:], []int{100, 101}) || !slices.Equal(gotOther[n:], []int{200}) {
				t.Fatalf("P16.1: of %d addresses and their clone, Take tells %v and %v", n, gotOne, gotOther)
			}
		}
	}
}

// TestNotMade: of nil, and of buffers that New did not make: false, nothing, 0, true, nil, whatever they are told, again and again.
func TestNotMade(t *testing.T) {
	var none *buffer.Buffers
	var zero buffer.Buffers
	for _, b := range []*buffer.Buffers{nil, none, none.Clone(), &zero, {}, new(buffer.Buffers), zero.Clone()} {
		h := &held{buffers: b, plain: &plain{none: true}}
		for range 3 {
			h.check(t, "not made")
			h.checkLen(t, strangers(), "not made")
			for _, thread := range append(near(), strangers()...) {
				for _, a := range append(beyond(), 0, 7, 2047) {
					if b.Put(thread, a) {
						t.Fatalf("P16.1: of such as New did not make, Put(%d, %d) = true", thread, a)
					}
				}
				if got := b.Take(thread); len(got) != 0 {
					t.Fatalf("P16.1: of such as New did not make, Take(%d) = %v", thread, got)
				}
			}
			if got := b.Clear(); got != 0 || !b.Empty() {
				t.Fatalf("P16.1: of such as New did not make, Clear() = %d, Empty() = %t; want 0, true", got, b.Empty())
			}
			if c := b.Clone(); c != nil {
				t.Fatalf("P16.1: of such as New did not make, Clone() = %v; want nil", c)
			}
		}
	}
}

// TestApart: P3: buffers that are none of another one's clones have nothing in common.
func TestApart(t *testing.T) {
	a, b := newHeld(most), newHeld(most)
	list := calls(most, 0, 5, 2047)
	for i, do := range append(slices.Clone(list), list...) {
		do.do(t, a)
		b.check(t, "others went on")
		if i%3 == 0 {
			do.do(t, b)
			a.check(t, "others went on")
		}
	}
	newHeld(most).check(t, "new, behind others")
}

// rule makes numbers one behind the other, always the same.
type rule uint64

func (r *rule) below(n int) int {
	*r = *r*6364136223846793005 + 1442695040888963407
	return int(uint64(*r)>>33) % n
}

// of is one of l.
func of[E any](r *rule, l []E) E {
	return l[r.below(len(l))]
}

// step does one thing, now and then of a thread or an address that can't be; of the addresses that can be, it tells those below span.
func (h *held) step(t *testing.T, r *rule, span int) []int {
	t.Helper()
	thread := r.below(max(len(h.plain.lists), 1))
	a := r.below(span)
	switch r.below(12) {
	case 0:
		thread = of(r, append(near(), strangers()...))
	case 1:
		a = of(r, append(beyond(), edges()...))
	}
	switch n := r.below(60); {
	case n == 0:
		return []int{h.clear(t)}
	case n < 6:
		return h.take(t, thread)
	}
	if h.put(t, thread, a) {
		return []int{a}
	}
	return nil
}

// TestScripts: long scripts of all calls, step by step, with all that is told behind each one.
func TestScripts(t *testing.T) {
	for seed := range 14 {
		n := seed % (most + 1)
		if seed > most {
			n = most
		}
		h := newHeld(n)
		r := rule(seed)
		put, refused, taken, empty := 0, 0, 0, 0
		for i := range 1200 {
			was := h.plain.count()
			h.step(t, &r, []int{4, 12, 60, words}[i/50%4])
			switch now := h.plain.count(); {
			case now > was:
				put++
			case now < was:
				taken++
			default:
				refused++
			}
			if h.buffers.Empty() {
				empty++
			}
			if i%50 == 0 {
				h.checkLen(t, strangers(), "in a script")
			}
			if i%97 == 0 {
				h = h.clone(t)
				h.check(t, "a clone, in a script")
			}
		}
		if n > 1 && (put < 300 || refused < 200 || taken < 60 || empty < 1) {
			t.Errorf("script %d put %d, refused %d, took or cleared %d and was empty %d times: too few", seed, put, refused, taken, empty)
		}
	}
}

// TestClonesGoOnByTurns: long scripts of two that were one.
func TestClonesGoOnByTurns(t *testing.T) {
	for seed := range 6 {
		h := newHeld(most - seed)
		r := rule(1000 + seed)
		for range 50 + seed {
			h.step(t, &r, 40)
		}
		c := h.clone(t)
		for range 200 {
			h.step(t, &r, 20)
			c.check(t, "the buffers went on")
			c.step(t, &r, 30)
			h.check(t, "the clone went on")
		}
	}
}

// TestNothingElse: P3: the same script answers the same each time, with another one between.
func TestNothingElse(t *testing.T) {
	run := func(seed int) []int {
		h := newHeld(most)
		h.quiet = true
		r := rule(seed)
		var told []int
		for range 500 {
			told = append(told, h.step(t, &r, 30)...)
			for thread := range most {
				told = append(told, h.buffers.Len(thread))
			}
		}
		return told
	}
	wanted := run(7)
	for seed := range 10 {
		run(seed)
		if !slices.Equal(run(7), wanted) {
			t.Fatal("P3: a script told otherwise when it was run again")
		}
	}
}
