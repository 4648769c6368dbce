package stack_test

import (
	"slices"
	"testing"

	"scutage/stack"
)

// TestExample: the chapter's: with room for one: the second one is lost.
func TestExample(t *testing.T) {
	s := stack.New(1)
	if !s.Push(entry(3, 1)) || s.Over() || s.Push(entry(4, 2)) || !s.Over() {
		t.Error("P17.1: with room for one, Push, twice, is not true and false, or Over is not false and true")
	}
	if all := s.All(); !slices.Equal(all, []stack.Entry{entry(3, 1)}) {
		t.Errorf("P17.1: with room for one, the second one lost, All() = %v; want the first one", all)
	}
}

// TestWrittenOut: a stack worked out by hand from the chapter.
func TestWrittenOut(t *testing.T) {
	s := stack.New(3)
	tell := func(when string, over bool, want ...stack.Entry) {
		t.Helper()
		if all := s.All(); !slices.Equal(all, want) || s.Len() != len(want) || s.Over() != over {
			t.Errorf("P17.1: %s: All() = %v, Len() = %d, Over() = %t; want %v, %t", when, all, s.Len(), s.Over(), want, over)
		}
	}
	push := func(at int, from int, want bool) {
		t.Helper()
		if got := s.Push(stack.Entry{At: at, From: from}); got != want {
			t.Errorf("P17.1: Push of %d, %d is %t; want %t", at, from, got, want)
		}
	}
	pop := func(at int, from int) {
		t.Helper()
		if got, ok := s.Pop(); got != (stack.Entry{At: at, From: from}) || !ok {
			t.Errorf("P17.1: Pop() = %v, %t; want %d, %d and true", got, ok, at, from)
		}
	}
	settle := func(want bool) {
		t.Helper()
		if got := s.Settle(); got != want {
			t.Errorf("P17.1: Settle() = %t; want %t", got, want)
		}
	}
	none := func() {
		t.Helper()
		if got, ok := s.Pop(); got != (stack.Entry{}) || ok {
			t.Errorf("P17.1: of none, Pop() = %v, %t; want zero, false", got, ok)
		}
	}
	tell("new", false)
	none()
	settle(false)
	push(8, 0, true)
	push(8, 0, true)
	push(-1, greatest, true)
	tell("full", false, entry(8, 0), entry(8, 0), entry(-1, greatest))
	push(5, 5, false)
	tell("one was lost", true, entry(8, 0), entry(8, 0), entry(-1, greatest))
	pop(-1, greatest)
	tell("popped", true, entry(8, 0), entry(8, 0))
	push(least, -7, true)
	tell("pushed behind a loss", true, entry(8, 0), entry(8, 0), entry(least, -7))
	settle(true)
	tell("settled", false, entry(8, 0), entry(8, 0), entry(least, -7))
	settle(false)
	push(6, 6, false)
	push(7, 7, false)
	tell("lost again", true, entry(8, 0), entry(8, 0), entry(least, -7))
	c := s.Clone()
	pop(least, -7)
	pop(8, 0)
	pop(8, 0)
	none()
	tell("all were popped", true)
	settle(true)
	none()
	settle(false)
	s = c
	tell("the clone", true, entry(8, 0), entry(8, 0), entry(least, -7))
	push(1, 2, false)
	settle(true)
	pop(least, -7)
	push(1, 2, true)
	push(1, 2, false)
	tell("the clone went on", true, entry(8, 0), entry(8, 0), entry(1, 2))
}

// nearest is the room that may be and is nearest to n.
func nearest(n int) int {
	return max(1, min(n, most))
}

// TestNew: each room, beyond each end, and far out: empty, no loss noted, and just so much room.
func TestNew(t *testing.T) {
	numbers := []int{least, least + 1, -1 << 62, -1<<32 + 3, -1 << 32, -1 << 31, -65536, -257, -256, -255,
		511, 512, 513, 1023, 65535, 65536, 65537, 1 << 31, 1<<31 + 1, 1<<31 - 1, 1 << 32, 1<<32 + 1, 1<<32 + 256, 1 << 62, greatest - 1, greatest}
	for n := -20; n <= most+20; n++ {
		numbers = append(numbers, n)
	}
	for _, n := range numbers {
		s := stack.New(n)
		if s == nil {
			t.Fatalf("P17.1: New(%d) = nil", n)
		}
		if e, ok := s.Pop(); s.Len() != 0 || s.Over() || s.Settle() || len(s.All()) != 0 || ok || e != (stack.Entry{}) {
			t.Fatalf("P17.1: New(%d) is not empty, or a loss is noted", n)
		}
		pushed := 0
		for pushed < most+100 && s.Push(entry(pushed, n)) {
			pushed++
			if s.Len() != pushed || s.Over() {
				t.Fatalf("P17.1: of New(%d), behind %d Pushes, Len() = %d, Over() = %t", n, pushed, s.Len(), s.Over())
			}
		}
		if pushed != nearest(n) || s.Len() != pushed || !s.Over() {
			t.Fatalf("P17.1: New(%d) has room for %d; want %d; Len() = %d, Over() = %t", n, pushed, nearest(n), s.Len(), s.Over())
		}
		h := &held{stack: stack.New(n), plain: &plain{room: nearest(n)}}
		h.check(t, "new")
	}
}

// TestPush: up to the room, one more and many more, with entries of any numbers: what is lost changes nothing but the note.
func TestPush(t *testing.T) {
	for _, room := range rooms() {
		h := newHeld(room)
		for i := range room {
			if !h.push(t, edges()[i%len(edges())]) || h.stack.Over() {
				t.Fatalf("P17.1: with room for %d, Push number %d = false, or Over() = true", room, i)
			}
		}
		h.check(t, "full")
		was := h.stack.All()
		for i, e := range append(edges(), slices.Repeat([]stack.Entry{was[0]}, 300)...) {
			if h.push(t, e) || !h.stack.Over() || !slices.Equal(h.stack.All(), was) {
				t.Fatalf("P17.1: with room for %d, Push of %d more, %v, is true, or not noted, or the stack is not as it was", room, i+1, e)
			}
		}
		h.check(t, "many were lost")
	}
}

// TestEachEntry: each entry alone, under and above another one, and lost.
func TestEachEntry(t *testing.T) {
	for _, e := range edges() {
		for _, other := range edges() {
			s := stack.New(2)
			if !s.Push(e) || !s.Push(other) || s.Push(e) {
				t.Fatalf("P17.1: with room for two, Push of %v, %v, %v is not true, true and false", e, other, e)
			}
			if got := s.All(); !slices.Equal(got, []stack.Entry{e, other}) {
				t.Fatalf("P17.1: All() = %v; want %v, %v", got, e, other)
			}
			if got, ok := s.Pop(); got != other || !ok {
				t.Fatalf("P17.1: Pop() = %v, %t; want %v, true", got, ok, other)
			}
			if got, ok := s.Pop(); got != e || !ok {
				t.Fatalf("P17.1: Pop() = %v, %t; want %v, true", got, ok, e)
			}
		}
	}
}

// TestSameEntry: the same entry many times: each time one more, and each time popped.
func TestSameEntry(t *testing.T) {
	for _, e := range edges() {
		h := newHeld(5)
		h.pushes(t, slices.Repeat([]stack.Entry{e}, 7))
		for range 5 {
			if got, ok := h.pop(t); got != e || !ok {
				t.Fatalf("P17.1: %v five times: Pop() = %v, %t", e, got, ok)
			}
		}
		h.popAll(t)
	}
}

// TestPop: with none, one and many entries: the topmost each time, until there is none; and each time again, once filled anew.
func TestPop(t *testing.T) {
	for _, h := range many(t, rooms()) {
		for range 2 {
			left := h.stack.All()
			for len(left) > 0 {
				top := left[len(left)-1]
				if got, ok := h.pop(t); got != top || !ok {
					t.Fatalf("P17.1: of %v, Pop() = %v, %t; want %v, true", left, got, ok, top)
				}
				left = left[:len(left)-1]
				if got := h.stack.All(); !slices.Equal(got, left) {
					t.Fatalf("P17.1: behind Pop, All() = %v; want %v", got, left)
				}
			}
			for range 3 {
				if got, ok := h.pop(t); got != (stack.Entry{}) || ok {
					t.Fatalf("P17.1: of none, Pop() = %v, %t; want zero, false", got, ok)
				}
			}
			h.check(t, "all popped")
			h.fill(t)
		}
	}
}

// TestPopNone: Pop of none takes no room, gives none, and notes nothing.
func TestPopNone(t *testing.T) {
	for room := 1; room <= 20; room++ {
		h := newHeld(room)
		for range 40 {
			h.pop(t)
		}
		h.check(t, "popped, of none")
		h.pushes(t, some(room))
		if h.stack.Over() || h.push(t, entry(0, 0)) {
			t.Fatalf("P17.1: behind Pop of none, there is no room for %d, or for one more", room)
		}
	}
}

// TestPushAgain: behind each number of Pops of a full stack there is room for just as many, with a loss noted, settled, and without one.
func TestPushAgain(t *testing.T) {
	for _, room := range []int{1, 2, 3, 8, 33, 255, 256} {
		for pops := 0; pops <= room; pops = pops*2 + 1 {
			for _, how := range []int{full, over, settled, anew} {
				h := laid(t, room, how)
				noted := h.stack.Over()
				for range pops {
					h.pop(t)
				}
				for i := range pops {
					if !h.push(t, entry(i, -i)) || h.stack.Over() != noted {
						t.Fatalf("P17.1: behind %d Pops, Push number %d = false, or Over() = %t; want %t", pops, i, h.stack.Over(), noted)
					}
				}
				if h.push(t, entry(9, 9)) || !h.stack.Over() {
					t.Fatalf("P17.1: full again behind %d Pops, Push = true, or no loss is noted", pops)
				}
				h.check(t, "full again")
			}
		}
	}
}

// TestLen: behind each Push, lost or not, each Pop, also of none, and each Settle.
func TestLen(t *testing.T) {
	for _, room := range rooms() {
		s := stack.New(room)
		tell := func(when string, i int, want int) {
			t.Helper()
			if got := s.Len(); got != want {
				t.Fatalf("P17.1: with room for %d, behind %s number %d, Len() = %d; want %d", room, when, i, got, want)
			}
		}
		for i := range room + 5 {
			s.Push(entry(i, 0))
			tell("Push", i, min(i+1, room))
			s.Settle()
			tell("Settle", i, min(i+1, room))
		}
		for i := range room + 5 {
			s.Pop()
			tell("Pop", i, max(room-i-1, 0))
			s.Over()
			tell("Over", i, max(room-i-1, 0))
		}
	}
}

// TestOver: with and without a loss, behind Pop and Push, and behind Settle.
func TestOver(t *testing.T) {
	for _, room := range rooms() {
		h := newHeld(room)
		h.quiet = true
		tell := func(when string, want bool) {
			t.Helper()
			// Twice: to ask changes nothing.
			if first, second := h.stack.Over(), h.stack.Over(); first != want || second != want {
				t.Fatalf("P17.1: with room for %d: %s: Over() = %t, %t; want %t", room, when, first, second, want)
			}
		}
		tell("new", false)
		h.pushes(t, some(room))
		tell("full", false)
		h.push(t, entry(1, 1))
		tell("one was lost", true)
		h.push(t, entry(1, 1))
		tell("two were lost", true)
		h.pop(t)
		tell("popped", true)
		h.push(t, entry(1, 1))
		tell("pushed again", true)
		h.popAll(t)
		tell("all were popped", true)
		h.push(t, entry(1, 1))
		tell("pushed behind all", true)
		h.settle(t)
		tell("settled", false)
		h.fill(t)
		tell("lost again", true)
		h.settle(t)
		tell("settled again", false)
		h.popAll(t)
		tell("popped behind Settle", false)
		h.pushes(t, some(room))
		tell("full again", false)
	}
}

// TestSettle: with a loss, once more, without one, and with a loss behind it; all else stays.
func TestSettle(t *testing.T) {
	for _, h := range many(t, rooms()) {
		was := h.stack.All()
		noted := h.stack.Over()
		for i := range 3 {
			if got, want := h.settle(t), noted && i == 0; got != want || h.stack.Over() {
				t.Fatalf("P17.1: Settle number %d = %t, want %t; Over() = %t", i, got, want, h.stack.Over())
			}
			if !slices.Equal(h.stack.All(), was) {
				t.Fatal("P17.1: behind Settle, All is not as it was")
			}
		}
		h.check(t, "settled")
		h.fill(t)
		if !h.stack.Over() || !h.settle(t) || h.settle(t) {
			t.Fatal("P17.1: a loss behind Settle is not noted again, or Settle, twice, is not true and false")
		}
		h.push(t, entry(0, 0))
		h.push(t, entry(0, 0))
		h.pop(t)
		if !h.settle(t) || h.settle(t) {
			t.Fatal("P17.1: behind two losses and a Pop, Settle, twice, is not true and false")
		}
		h.check(t, "settled thrice")
	}
}

// TestAll: of each number of entries: from the bottom on, all of them, and the same when asked again.
func TestAll(t *testing.T) {
	l := some(most)
	s := stack.New(most)
	for n := range most + 1 {
		for range 2 {
			if got := s.All(); !slices.Equal(got, l[:n]) {
				t.Fatalf("P17.1: of %d entries, All() = %v; want %v", n, got, l[:n])
			}
		}
		if n < most {
			s.Push(l[n])
		}
	}
	for n := most - 1; n >= 0; n-- {
		s.Pop()
		if got := s.All(); !slices.Equal(got, l[:n]) {
			t.Fatalf("P17.1: of %d entries that are left, All() = %v; want %v", n, got, l[:n])
		}
	}
}

// spoil writes on all of l, behind its end too, and then appends to it.
func spoil(l []stack.Entry) {
	l = l[:cap(l)]
	for i := range l {
		l[i] = entry(-77, 77)
	}
	_ = append(l[:len(l)/2], entry(78, 0), entry(79, 0))
}

// TestAnswersApart: P2: what All tells can be written on and appended to; neither the stack, nor its clone, nor what was told else changes.
func TestAnswersApart(t *testing.T) {
	for _, h := range many(t, rooms()) {
		c := h.clone(t)
		want := slices.Clone(h.plain.list)
		told := [][]stack.Entry{h.stack.All(), c.stack.All(), h.stack.All(), c.stack.All(), h.stack.Clone().All()}
		for i, l := range told {
			spoil(l)
			h.look(t, "what All told was written on")
			c.look(t, "what All told was written on")
			for _, later := range told[i+1:] {
				if !slices.Equal(later, want) {
					t.Fatalf("P2: two answers of All share memory: %v; want %v", later, want)
				}
			}
		}
		h.check(t, "all that All told was written on")
		c.check(t, "all that All told was written on")
	}
}

// TestToldStays: P2: what All told stays as it was, whatever the stack and its clone do then.
func TestToldStays(t *testing.T) {
	for _, h := range many(t, rooms()) {
		c := h.clone(t)
		want := slices.Clone(h.plain.list)
		told := [][]stack.Entry{h.stack.All(), c.stack.All()}
		tell := func(when string) {
			t.Helper()
			for _, l := range told {
				if !slices.Equal(l, want) {
					t.Fatalf("P2: %s: what All told is %v; want %v", when, l, want)
				}
			}
		}
		h.quiet, c.quiet = true, true
		h.fill(t)
		tell("filled")
		c.pop(t)
		c.pop(t)
		c.fill(t)
		tell("the clone popped and filled")
		h.settle(t)
		h.popAll(t)
		tell("all popped")
		h.fill(t)
		tell("filled again")
		h.check(t, "filled again")
		c.check(t, "the clone, filled")
	}
}

// TestAppended: P2: who appends to what All told, and pushes, by turns, gets just what was pushed.
func TestAppended(t *testing.T) {
	for n := range most - 1 {
		s := stack.New(most)
		l := some(n)
		for _, e := range l {
			s.Push(e)
		}
		told := s.All()
		told = append(told, entry(500, 0))
		s.Push(entry(501, 0))
		told = append(told, entry(502, 0))
		s.Push(entry(503, 0))
		if want := []stack.Entry{entry(500, 0), entry(502, 0)}; !slices.Equal(told[n:], want) {
			t.Fatalf("P2: what was appended to %d entries is %v; want %v", n, told[n:], want)
		}
		if got, want := s.All(), append(l, entry(501, 0), entry(503, 0)); !slices.Equal(got, want) {
			t.Fatalf("P2: behind that, All() = %v; want %v", got, want)
		}
	}
}

// calls are all calls that change a stack, by name.
func calls() []string {
	return []string{"Push", "Push another", "Pop", "Settle"}
}

// do calls it.
func (h *held) do(t *testing.T, name string) {
	t.Helper()
	switch name {
	case "Push":
		h.push(t, entry(0, 0))
	case "Push another":
		h.push(t, entry(2047, least))
	case "Pop":
		h.pop(t)
	case "Settle":
		h.settle(t)
	}
}

// TestClone: the same entries, room and note, and so the clone's clone.
func TestClone(t *testing.T) {
	for _, h := range many(t, rooms()) {
		noted := h.stack.Over()
		c := h.stack.Clone().Clone()
		if c.Len() != h.stack.Len() || c.Over() != noted || !slices.Equal(c.All(), h.stack.All()) {
			t.Fatalf("P17.1: with room for %d, the clone has %v, Over() = %t; want %v, %t", h.plain.room, c.All(), c.Over(), h.stack.All(), noted)
		}
		c.Settle()
		for i := c.Len(); i < h.plain.room; i++ {
			if !c.Push(entry(i, i)) || c.Over() {
				t.Fatalf("P17.1: a clone with room for %d, with %d, has no room", h.plain.room, i)
			}
		}
		if c.Push(entry(0, 0)) || !c.Over() || h.stack.Over() != noted {
			t.Fatalf("P17.1: a full clone with room for %d has room for one more, or its loss is not noted, or another's", h.plain.room)
		}
		h.look(t, "its clone went on")
	}
}

// TestCloneApart: the stack goes on and the clone stays; the clone goes on and the stack stays; and the clone's clone.
func TestCloneApart(t *testing.T) {
	for _, h := range many(t, rooms()) {
		for _, name := range calls() {
			a := h.clone(t)
			b := a.clone(t)
			c := b.clone(t)
			a.do(t, name)
			b.look(t, "the stack went on: "+name)
			c.look(t, "the stack went on: "+name)
			b.do(t, name)
			b.do(t, name)
			a.look(t, "the clone went on: "+name)
			c.look(t, "the clone went on: "+name)
			c.do(t, "Pop")
			c.do(t, "Push another")
			c.do(t, name)
			a.look(t, "the clone's clone went on: "+name)
			b.look(t, "the clone's clone went on: "+name)
		}
		h.look(t, "its clones went on")
	}
}

// TestClonePushByTurns: P2: one more entry on the stack, and another on the clone, over each number of entries, behind Pops too: each has its own.
func TestClonePushByTurns(t *testing.T) {
	for n := range 70 {
		for pops := range min(n, 3) + 1 {
			s := stack.New(most)
			for _, e := range some(n + pops) {
				s.Push(e)
			}
			for range pops {
				s.Pop()
			}
			c := s.Clone()
			one, other := s, c
			if n%2 == 1 {
				one, other = c, s
			}
			one.Push(entry(100, 0))
			other.Push(entry(200, 0))
			one.Push(entry(101, 0))
			if got, want := one.All()[n:], []stack.Entry{entry(100, 0), entry(101, 0)}; !slices.Equal(got, want) {
				t.Fatalf("P17.1: over %d entries, pushed by turns with a clone: %v; want %v", n, got, want)
			}
			if got, want := other.All()[n:], []stack.Entry{entry(200, 0)}; !slices.Equal(got, want) {
				t.Fatalf("P17.1: over %d entries, pushed by turns with a clone: %v; want %v", n, got, want)
			}
		}
	}
}

// TestNotMade: of nil, and of a stack that New did not make: false, zero, 0, nothing, nil, again and again.
func TestNotMade(t *testing.T) {
	var none *stack.Stack
	var zero stack.Stack
	for i, s := range []*stack.Stack{nil, none, none.Clone(), &zero, {}, new(stack.Stack), zero.Clone()} {
		for range 3 {
			tell := func(when string) {
				t.Helper()
				if s.Len() != 0 || s.Over() || len(s.All()) != 0 {
					t.Fatalf("P17.1: number %d that New did not make: %s: Len() = %d, Over() = %t, All() = %v", i, when, s.Len(), s.Over(), s.All())
				}
				if c := s.Clone(); c != nil {
					t.Fatalf("P17.1: number %d that New did not make: %s: Clone() = %v; want nil", i, when, c)
				}
			}
			tell("asked")
			for _, e := range edges() {
				if s.Push(e) {
					t.Fatalf("P17.1: number %d that New did not make: Push(%v) = true", i, e)
				}
				tell("Push")
			}
			if e, ok := s.Pop(); e != (stack.Entry{}) || ok {
				t.Fatalf("P17.1: number %d that New did not make: Pop() = %v, %t; want zero, false", i, e, ok)
			}
			tell("Pop")
			if s.Push(entry(1, 1)) || s.Settle() || s.Settle() {
				t.Fatalf("P17.1: number %d that New did not make: Push or Settle = true", i)
			}
			tell("Settle")
		}
	}
}

// TestShortScripts: all scripts of few calls, over stacks of little room, with all that is told behind each call, on clones and on the stack itself.
func TestShortScripts(t *testing.T) {
	for room := 1; room <= 3; room++ {
		var from func(h *held, script []string, left int)
		from = func(h *held, script []string, left int) {
			h.check(t, "a short script")
			if left == 0 {
				// Once more, without a clone between.
				again := newHeld(room)
				for _, name := range script {
					again.do(t, name)
				}
				again.check(t, "a short script, without a clone")
				return
			}
			for _, name := range calls() {
				next := h.clone(t)
				next.do(t, name)
				from(next, append(slices.Clone(script), name), left-1)
			}
			h.look(t, "clones went on")
		}
		from(newHeld(room), nil, 6)
	}
}

// TestApart: P3: stacks that are none of another one's clones have nothing in common.
func TestApart(t *testing.T) {
	a, b := newHeld(3), newHeld(3)
	list := calls()
	for i := range 400 {
		a.do(t, list[i*i%7%len(list)])
		b.look(t, "another one went on")
		if i%3 == 0 {
			b.do(t, list[i%5%len(list)])
			a.look(t, "another one went on")
		}
	}
	newHeld(3).check(t, "new, behind others")
}

// rule makes numbers one behind the other, always the same.
type rule uint64

func (r *rule) below(n int) int {
	*r = *r*6364136223846793005 + 1442695040888963407
	return int(uint64(*r)>>33) % n
}

// step does one thing; where it is up, it pushes more than it pops.
func (h *held) step(t *testing.T, r *rule, up bool) {
	t.Helper()
	pushes := 3
	if up {
		pushes = 7
	}
	switch n := r.below(11); {
	case n == 0:
		h.settle(t)
	case n <= pushes:
		e := entry(r.below(2048), r.below(127))
		if r.below(4) == 0 {
			e = edges()[r.below(len(edges()))]
		}
		h.push(t, e)
	default:
		h.pop(t)
	}
}

// TestScripts: long scripts of all calls, step by step, with all that is told behind each one; the quiet ones are looked at behind all, and not cloned on their way.
func TestScripts(t *testing.T) {
	for seed, room := range rooms() {
		for _, quiet := range []bool{false, true} {
			h := newHeld(room)
			h.quiet = quiet
			r := rule(seed)
			lost, none, noted := 0, 0, 0
			for i := range 1500 + 24*room {
				was := len(h.plain.list)
				h.step(t, &r, i/(4*room+10)%2 == 0)
				switch now := len(h.plain.list); {
				case was == room && now == room:
					lost++
				case was == 0 && now == 0:
					none++
				}
				if h.plain.over {
					noted++
				}
				if !quiet && i%97 == 0 {
					h.check(t, "in a script")
				}
				if !quiet && i%397 == 0 {
					h = h.clone(t)
				}
			}
			h.check(t, "behind a script")
			if lost < 10 || none < 10 || noted < 20 {
				t.Errorf("script %d lost %d, popped none %d times, and was over %d times: too few", seed, lost, none, noted)
			}
		}
	}
}

// TestClonesGoOnByTurns: long scripts of two that were one.
func TestClonesGoOnByTurns(t *testing.T) {
	for seed, room := range rooms() {
		h := newHeld(room)
		r := rule(1000 + seed)
		for range 2 * room {
			h.step(t, &r, true)
		}
		c := h.clone(t)
		for i := range 300 {
			h.step(t, &r, i%60 < 30)
			c.look(t, "the stack went on")
			c.step(t, &r, i%40 < 20)
			h.look(t, "the clone went on")
		}
	}
}

// TestNothingElse: P3: the same script answers the same each time, with another one between.
func TestNothingElse(t *testing.T) {
	run := func(seed int) []stack.Entry {
		s := stack.New(9)
		r := rule(seed)
		var told []stack.Entry
		for range 500 {
			switch r.below(5) {
			case 0:
				s.Settle()
			case 1, 2:
				e, _ := s.Pop()
				told = append(told, e)
			default:
				s.Push(entry(r.below(99), r.below(9)))
			}
			told = append(told, s.All()...)
			told = append(told, entry(s.Len(), 0))
		}
		return told
	}
	wanted := run(7)
	for seed := range 10 {
		run(seed)
		if !slices.Equal(run(7), wanted) {
			t.Fatal("P3: a script told otherwise when it was run again")
		}
	}
}
