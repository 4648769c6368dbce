package shade_test

import (
	"slices"
	"testing"

	"scutage/shade"
	"scutage/stack"
)

// TestExample: the chapter's: Shade twice: once true; one waits.
func TestExample(t *testing.T) {
	g := shade.New(8)
	if !g.Shade(40) || g.Shade(40) || g.Waiting() != 1 {
		t.Error("P18.1: Shade, twice, is not true and false, or not one waits")
	}
	if e, ok := g.Next(); !ok || e != (stack.Entry{At: 40, From: 0}) {
		t.Errorf("P18.1: behind Shade(40), Next() = %v, %t; want 40 from field 0 on", e, ok)
	}
}

// TestWrittenOut: a grey worked out by hand from the chapter.
func TestWrittenOut(t *testing.T) {
	g := shade.New(2)
	tell := func(when string, waiting int, over bool, marked ...int) {
		t.Helper()
		if all := g.All(); !slices.Equal(all, marked) || g.Count() != len(marked) || g.Waiting() != waiting || g.Over() != over {
			t.Errorf("P18.1: %s: All() = %v, Count() = %d, Waiting() = %d, Over() = %t; want %v, %d, %t", when, all, g.Count(), g.Waiting(), g.Over(), marked, waiting, over)
		}
	}
	want := func(call string, got bool, want bool) {
		t.Helper()
		if got != want {
			t.Errorf("P18.1: %s = %t; want %t", call, got, want)
		}
	}
	next := func(at int, from int) {
		t.Helper()
		if got, ok := g.Next(); got != entry(at, from) || !ok {
			t.Errorf("P18.1: Next() = %v, %t; want %d, %d and true", got, ok, at, from)
		}
	}
	tell("new", 0, false)
	want("Shade(64)", g.Shade(64), true)
	want("Black(2047)", g.Black(2047), true)
	want("Shade(2047)", g.Shade(2047), false)
	want("Black(64)", g.Black(64), false)
	tell("one waits", 1, false, 64, 2047)
	want("Shade(0)", g.Shade(0), true)
	tell("two wait", 2, false, 0, 64, 2047)
	want("Black(1)", g.Black(1), true)
	tell("no room, no loss", 2, false, 0, 1, 64, 2047)
	want("Shade(63)", g.Shade(63), true)
	tell("one was lost", 2, true, 0, 1, 63, 64, 2047)
	want("Shade(63)", g.Shade(63), false)
	want("Clear(0)", g.Clear(0), true)
	want("Clear(0)", g.Clear(0), false)
	tell("0 was cleared", 2, true, 1, 63, 64, 2047)
	next(0, 0)
	tell("0 was taken", 1, true, 1, 63, 64, 2047)
	want("Settle()", g.Settle(), true)
	want("Settle()", g.Settle(), false)
	want("Rest of 64 from 5 on", g.Rest(entry(64, 5)), true)
	want("Rest of 64 from 9 on", g.Rest(entry(64, 9)), false)
	tell("the rest was lost", 2, true, 1, 63, 64, 2047)
	next(64, 5)
	next(64, 0)
	if e, ok := g.Next(); e != (stack.Entry{}) || ok {
		t.Errorf("P18.1: of none, Next() = %v, %t; want zero, false", e, ok)
	}
	tell("all were taken", 0, true, 1, 63, 64, 2047)
	want("Shade(0)", g.Shade(0), true)
	next(0, 0)
	want("Shade(-1)", g.Shade(-1), false)
	want("Shade(2048)", g.Shade(2048), false)
	want("Black(2048)", g.Black(2048), false)
	want("Clear(2048)", g.Clear(2048), false)
	tell("what is no address", 0, true, 0, 1, 63, 64, 2047)
}

// nearest is the room that may be and is nearest to n.
func nearest(n int) int {
	return max(1, min(n, most))
}

// TestNew: each room, beyond each end, and far out: no marks, nothing waits, no loss noted, and just so much room.
func TestNew(t *testing.T) {
	numbers := []int{least, least + 1, -1 << 62, -1<<32 + 3, -1 << 32, -1 << 31, -65536, -2048, -257, -256, -255,
		511, 512, 513, 2047, 2048, 2049, 65535, 65536, 65537, 1 << 31, 1<<31 + 1, 1<<31 - 1, 1 << 32, 1<<32 + 1, 1<<32 + 256, 1 << 62, greatest - 1, greatest}
	for n := -20; n <= most+20; n++ {
		numbers = append(numbers, n)
	}
	for _, n := range numbers {
		g := shade.New(n)
		if g == nil {
			t.Fatalf("P18.1: New(%d) = nil", n)
		}
		if e, ok := g.Next(); g.Waiting() != 0 || g.Over() || g.Settle() || ok || e != (stack.Entry{}) {
			t.Fatalf("P18.1: of New(%d), something waits, or a loss is noted", n)
		}
		if g.Count() != 0 || len(g.All()) != 0 {
			t.Fatalf("P18.1: New(%d) has marks: %v", n, g.All())
		}
		shaded := 0
		for shaded < most+100 && !g.Over() {
			if !g.Shade(shaded * 5) {
				t.Fatalf("P18.1: of New(%d), Shade(%d) = false", n, shaded*5)
			}
			shaded++
		}
		if shaded != nearest(n)+1 || g.Waiting() != nearest(n) || g.Count() != shaded {
			t.Fatalf("P18.1: of New(%d), number %d is lost, %d wait, %d marks; want room for %d", n, shaded, g.Waiting(), g.Count(), nearest(n))
		}
		h := &held{grey: shade.New(n), plain: &plain{room: nearest(n)}}
		h.check(t, "new")
	}
}

// TestShadeEach: each address alone: true once, and it waits, from field 0 on.
func TestShadeEach(t *testing.T) {
	for a := range addresses {
		h := newHeld(2)
		if h.grey.Is(a) || !h.shade(t, a) || !h.grey.Is(a) || h.grey.Count() != 1 || h.grey.Waiting() != 1 {
			t.Fatalf("P18.1: new, Shade(%d) = false, or it alone is not marked and waiting then", a)
		}
		for range 3 {
			if h.shade(t, a) || h.black(t, a) || h.grey.Waiting() != 1 || h.grey.Count() != 1 {
				t.Fatalf("P18.1: of %d, which is marked, Shade or Black = true, or it waits again", a)
			}
		}
		if e, ok := h.next(t); e != entry(a, 0) || !ok {
			t.Fatalf("P18.1: behind Shade(%d), Next() = %v, %t", a, e, ok)
		}
		if !h.grey.Is(a) || h.shade(t, a) || h.grey.Waiting() != 0 {
			t.Fatalf("P18.1: %d was taken: it is not marked, or can be shaded", a)
		}
		h.look(t, "one address")
	}
}

// TestShadeAll: all addresses, in three orders, over each room: what there is no room for is marked all the same, and the loss noted.
func TestShadeAll(t *testing.T) {
	rising := make([]int, addresses)
	for a := range rising {
		rising[a] = a
	}
	falling := slices.Clone(rising)
	slices.Reverse(falling)
	for _, room := range rooms() {
		for _, l := range [][]int{rising, falling, some(addresses)} {
			h := newHeld(room)
			h.quiet = true
			for i, a := range l {
				if !h.shade(t, a) || h.grey.Count() != i+1 || h.grey.Waiting() != min(i+1, room) || h.grey.Over() != (i >= room) {
					t.Fatalf("P18.1: with room for %d, number %d, Shade(%d): Count() = %d, Waiting() = %d, Over() = %t", room, i, a, h.grey.Count(), h.grey.Waiting(), h.grey.Over())
				}
			}
			h.check(t, "all shaded")
			h.settle(t)
			h.shades(t, l)
			if h.grey.Over() {
				t.Fatalf("P18.1: with room for %d, to shade what is marked notes a loss", room)
			}
			for i := room - 1; i >= 0; i-- {
				if e, ok := h.next(t); e != entry(l[i], 0) || !ok {
					t.Fatalf("P18.1: with room for %d, Next() = %v, %t; want %d from field 0 on", room, e, ok, l[i])
				}
			}
			h.check(t, "all shaded, all taken")
		}
	}
}

// TestLost: one more than there is room for, marked or not: only what was not marked is a loss.
func TestLost(t *testing.T) {
	for _, room := range rooms() {
		h := laid(t, room, full)
		l := some(room + 20)
		for _, a := range append(slices.Clone(l[:room]), outside()...) {
			if h.shade(t, a) || h.grey.Over() {
				t.Fatalf("P18.1: full, Shade(%d), of what is marked or no address, is true, or notes a loss", a)
			}
		}
		for _, a := range l[room : room+9] {
			if !h.black(t, a) || h.grey.Over() {
				t.Fatalf("P18.1: full, Black(%d) = false, or notes a loss", a)
			}
		}
		for _, a := range l[room+9:] {
			if !h.shade(t, a) || !h.grey.Over() || !h.grey.Is(a) || h.grey.Waiting() != room {
				t.Fatalf("P18.1: full, Shade(%d) = false, or no loss is noted, or it is not marked, or it waits", a)
			}
			if h.shade(t, a) || h.black(t, a) {
				t.Fatalf("P18.1: of %d, which was lost, Shade or Black = true", a)
			}
			if !h.settle(t) {
				t.Fatalf("P18.1: behind the loss of %d, Settle() = false", a)
			}
		}
		h.check(t, "many were lost")
		h.next(t)
		if h.shade(t, l[room+9]) || h.grey.Waiting() != room-1 {
			t.Fatal("P18.1: what was lost can be shaded again once there is room")
		}
	}
}

// TestBlackEach: each address alone: true once, it does not wait, and no loss is noted, though there is no room.
func TestBlackEach(t *testing.T) {
	for a := range addresses {
		for _, room := range []int{1, most} {
			h := newHeld(room)
			if !h.black(t, a) || !h.grey.Is(a) || h.grey.Count() != 1 || h.grey.Waiting() != 0 || h.grey.Over() {
				t.Fatalf("P18.1: new, Black(%d) = false, or it is not marked then, or it waits, or a loss is noted", a)
			}
			for range 3 {
				if h.black(t, a) || h.shade(t, a) || h.grey.Waiting() != 0 || h.grey.Count() != 1 {
					t.Fatalf("P18.1: of %d, which is marked, Black or Shade = true, or it waits", a)
				}
			}
			if e, ok := h.next(t); e != (stack.Entry{}) || ok {
				t.Fatalf("P18.1: behind Black(%d), Next() = %v, %t", a, e, ok)
			}
		}
	}
	for _, room := range rooms() {
		for _, how := range []int{bare, full, over, settled} {
			h := laid(t, room, how)
			h.quiet = true
			waiting, noted := h.grey.Waiting(), h.grey.Over()
			for a := range addresses {
				h.black(t, a)
				if h.grey.Waiting() != waiting || h.grey.Over() != noted {
					t.Fatalf("P18.1: behind Black(%d), Waiting() = %d, Over() = %t; want %d, %t", a, h.grey.Waiting(), h.grey.Over(), waiting, noted)
				}
			}
			h.check(t, "all black")
		}
	}
}

// TestNoAddress: of what is no address: false, and nothing changes.
func TestNoAddress(t *testing.T) {
	for _, h := range many(t, rooms()) {
		for _, a := range outside() {
			if h.shade(t, a) || h.black(t, a) || h.clear(t, a) || h.grey.Is(a) {
				t.Fatalf("P18.1: of %d, which is no address, Shade, Black, Clear or Is = true", a)
			}
		}
		h.check(t, "what is no address")
	}
}

// TestClear: of marked and unmarked addresses: true once; the others' marks and what waits stay.
func TestClear(t *testing.T) {
	for _, h := range many(t, rooms()) {
		h.quiet = true
		waiting, noted := h.grey.Waiting(), h.grey.Over()
		for i, a := range some(addresses) {
			marked := h.grey.Is(a)
			count := h.grey.Count()
			if h.clear(t, a) != marked || h.clear(t, a) || h.grey.Is(a) {
				t.Fatalf("P18.1: marked: %t: Clear(%d), twice, is not that and false, or it is marked still", marked, a)
			}
			if marked {
				count--
			}
			if h.grey.Count() != count || h.grey.Waiting() != waiting || h.grey.Over() != noted {
				t.Fatalf("P18.1: behind Clear(%d), Count() = %d, Waiting() = %d, Over() = %t; want %d, %d, %t", a, h.grey.Count(), h.grey.Waiting(), h.grey.Over(), count, waiting, noted)
			}
			if i%300 == 0 {
				h.check(t, "some cleared")
			}
		}
		if h.grey.Count() != 0 {
			t.Fatal("P18.1: all cleared, there are marks")
		}
		h.check(t, "all cleared")
	}
}

// TestAgain: Shade and Black behind a Clear: true, and what is shaded waits once more.
func TestAgain(t *testing.T) {
	for _, a := range some(200) {
		h := newHeld(5)
		for i := range 5 {
			if !h.shade(t, a) || h.grey.Waiting() != i+1 || !h.clear(t, a) || h.grey.Waiting() != i+1 {
				t.Fatalf("P18.1: %d, shaded and cleared %d times, does not wait that often", a, i+1)
			}
			if !h.black(t, a) || h.grey.Waiting() != i+1 || !h.clear(t, a) {
				t.Fatalf("P18.1: behind Clear, Black(%d) = false, or it waits", a)
			}
		}
		if !h.shade(t, a) || !h.grey.Over() || !h.settle(t) || !h.grey.Is(a) {
			t.Fatalf("P18.1: with no room, behind Clear, Shade(%d) = false, or its loss is not noted, or it is not marked", a)
		}
		h.check(t, "shaded again")
		h.clear(t, a)
		for i := range 5 {
			if e, ok := h.next(t); e != entry(a, 0) || !ok || h.grey.Is(a) {
				t.Fatalf("P18.1: Next() number %d = %v, %t; want %d, which is not marked", i, e, ok, a)
			}
		}
		h.check(t, "all taken")
	}
}

// TestNext: with none, one and many: the topmost each time, which is gone; its mark stays as it was, and so do the others.
func TestNext(t *testing.T) {
	for _, h := range many(t, rooms()) {
		for range 2 {
			h.quiet = true
			want := slices.Clone(h.plain.list)
			marked := h.grey.All()
			for len(want) > 0 {
				top := want[len(want)-1]
				want = want[:len(want)-1]
				is := h.grey.Is(top.At)
				if got, ok := h.next(t); got != top || !ok || h.grey.Waiting() != len(want) || h.grey.Is(top.At) != is {
					t.Fatalf("P18.1: Next() = %v, %t; want %v, true; then %d wait; want %d; marked: %t; want %t", got, ok, top, h.grey.Waiting(), len(want), h.grey.Is(top.At), is)
				}
			}
			if !slices.Equal(h.grey.All(), marked) {
				t.Fatal("P18.1: behind Next, All is not as it was")
			}
			for range 3 {
				if got, ok := h.next(t); got != (stack.Entry{}) || ok {
					t.Fatalf("P18.1: of none, Next() = %v, %t; want zero, false", got, ok)
				}
			}
			h.check(t, "all taken")
			h.fill(t)
		}
	}
}

// TestNextNone: Next of none takes no room, gives none, and notes nothing.
func TestNextNone(t *testing.T) {
	for room := 1; room <= 20; room++ {
		h := newHeld(room)
		for range 40 {
			h.next(t)
		}
		h.check(t, "Next, of none")
		h.shades(t, some(room))
		if h.grey.Over() || h.rest(t, entry(0, 0)) {
			t.Fatalf("P18.1: behind Next of none, there is no room for %d, or for one more", room)
		}
	}
}

// TestRest: entries of any numbers, over marks of each kind: they wait as they are, no mark changes; with no room they are lost, which is noted.
func TestRest(t *testing.T) {
	for _, h := range many(t, rooms()) {
		marked := h.grey.All()
		for _, e := range oddEntries() {
			noted := h.grey.Over()
			free := h.grey.Waiting() < h.plain.room
			if h.rest(t, e) != free || h.grey.Over() != (noted || !free) {
				t.Fatalf("P18.1: room: %t: Rest(%v) = %t, Over() = %t, before: %t", free, e, !free, h.grey.Over(), noted)
			}
			if free {
				if got, ok := h.next(t); got != e || !ok {
					t.Fatalf("P18.1: behind Rest(%v), Next() = %v, %t", e, got, ok)
				}
				h.rest(t, e)
			}
		}
		if !slices.Equal(h.grey.All(), marked) {
			t.Fatal("P18.1: behind Rest, All is not as it was")
		}
		h.check(t, "rests")
	}
}

// TestRestEach: of each address, marked or not: it waits, and is marked as before; Shade and Black of it are as before.
func TestRestEach(t *testing.T) {
	for a := range addresses {
		h := newHeld(3)
		h.rest(t, entry(a, a%127+1))
		if h.grey.Is(a) || h.grey.Count() != 0 {
			t.Fatalf("P18.1: behind Rest of %d, it is marked", a)
		}
		if !h.shade(t, a) || h.grey.Waiting() != 2 || !h.rest(t, entry(a, 0)) || !h.grey.Is(a) || h.grey.Count() != 1 {
			t.Fatalf("P18.1: of %d, which waits, Shade or Rest = false, or it is not the only mark", a)
		}
		if h.rest(t, entry(a, 1)) || !h.grey.Over() {
			t.Fatalf("P18.1: full, Rest of %d = true, or its loss is not noted", a)
		}
		for _, from := range []int{0, 0, a%127 + 1} {
			if e, ok := h.next(t); e != entry(a, from) || !ok {
				t.Fatalf("P18.1: Next() = %v, %t; want %v", e, ok, entry(a, from))
			}
		}
		h.next(t)
	}
}

// TestWaiting: behind each call that lets wait, lost or not, each Next, also of none, and each that changes nothing of it.
func TestWaiting(t *testing.T) {
	for _, room := range rooms() {
		g := shade.New(room)
		tell := func(when string, i int, want int) {
			t.Helper()
			if got := g.Waiting(); got != want {
				t.Fatalf("P18.1: with room for %d, behind %s number %d, Waiting() = %d; want %d", room, when, i, got, want)
			}
		}
		l, others := some(room+6), some(2*room + 12)[room+6:]
		for i, a := range l {
			if i%2 == 0 {
				g.Shade(a)
				tell("Shade", i, min(i+1, room))
			} else {
				g.Rest(entry(-a, a))
				tell("Rest", i, min(i+1, room))
			}
			g.Settle()
			tell("Settle", i, min(i+1, room))
			g.Black(others[i])
			tell("Black", i, min(i+1, room))
			g.Clear(l[i/2])
			tell("Clear", i, min(i+1, room))
		}
		for i := range l {
			g.Next()
			tell("Next", i, max(room-i-1, 0))
			g.Over()
			tell("Over", i, max(room-i-1, 0))
		}
	}
}

// TestOver: with and without a loss, behind each other call, and behind Settle.
func TestOver(t *testing.T) {
	for _, room := range rooms() {
		h := newHeld(room)
		h.quiet = true
		tell := func(when string, want bool) {
			t.Helper()
			// Twice: to ask changes nothing.
			if first, second := h.grey.Over(), h.grey.Over(); first != want || second != want {
				t.Fatalf("P18.1: with room for %d: %s: Over() = %t, %t; want %t", room, when, first, second, want)
			}
		}
		l := some(room + 9)
		tell("new", false)
		h.shades(t, l[:room])
		tell("full", false)
		h.black(t, l[room])
		tell("full, and a black one", false)
		h.shade(t, l[room+1])
		tell("one was lost", true)
		h.shade(t, l[room+2])
		tell("two were lost", true)
		h.next(t)
		tell("taken", true)
		h.shade(t, l[room+3])
		tell("shaded again", true)
		h.clear(t, l[room+1])
		tell("what was lost is cleared", true)
		h.nextAll(t)
		tell("all were taken", true)
		h.rest(t, entry(1, 1))
		tell("rested behind all", true)
		h.settle(t)
		tell("settled", false)
		h.fill(t)
		tell("a rest was lost", true)
		h.settle(t)
		tell("settled again", false)
		h.nextAll(t)
		tell("taken behind Settle", false)
		for range room {
			h.rest(t, entry(1, 1))
		}
		tell("full again", false)
		h.shade(t, l[room+4])
		tell("lost again", true)
	}
}

// TestSettle: with a loss, once more, without one, and with a loss behind it; all else stays.
func TestSettle(t *testing.T) {
	for _, h := range many(t, rooms()) {
		noted := h.grey.Over()
		for i := range 3 {
			if got, want := h.settle(t), noted && i == 0; got != want || h.grey.Over() {
				t.Fatalf("P18.1: Settle number %d = %t, want %t; Over() = %t", i, got, want, h.grey.Over())
			}
		}
		h.check(t, "settled")
		h.fill(t)
		if !h.grey.Over() || !h.settle(t) || h.settle(t) {
			t.Fatal("P18.1: a loss behind Settle is not noted again, or Settle, twice, is not true and false")
		}
		h.clear(t, 70)
		h.shade(t, 70)
		h.rest(t, entry(0, 0))
		h.next(t)
		if !h.settle(t) || h.settle(t) {
			t.Fatal("P18.1: behind two losses and a Next, Settle, twice, is not true and false")
		}
		h.check(t, "settled thrice")
	}
}

// TestAll: of each number of marks: rising, all of them, and the same when asked again; and each address alone.
func TestAll(t *testing.T) {
	l := some(addresses)
	g := shade.New(4)
	for n := range addresses + 1 {
		want := slices.Sorted(slices.Values(l[:n]))
		for range 2 {
			if got := g.All(); !slices.Equal(got, want) || g.Count() != n {
				t.Fatalf("P18.1: of %d marks, All() = %v, Count() = %d; want %v", n, got, g.Count(), want)
			}
		}
		if n < addresses && n%2 == 0 {
			g.Shade(l[n])
		} else if n < addresses {
			g.Black(l[n])
		}
	}
	for n := addresses - 1; n >= 0; n-- {
		g.Clear(l[n])
		if got := g.All(); len(got) != n || g.Count() != n || !slices.IsSorted(got) {
			t.Fatalf("P18.1: of %d marks that are left, All() = %v, Count() = %d", n, got, g.Count())
		}
	}
	for a := range addresses {
		one := shade.New(1)
		one.Black(a)
		if got := one.All(); !slices.Equal(got, []int{a}) || one.Count() != 1 {
			t.Fatalf("P18.1: of %d alone, All() = %v, Count() = %d", a, got, one.Count())
		}
	}
}

// spoil writes on all of l, behind its end too, and then appends to it.
func spoil(l []int) {
	l = l[:cap(l)]
	for i := range l {
		l[i] = -77
	}
	_ = append(l[:len(l)/2], 78, 79)
}

// TestAnswersApart: P2: what All tells can be written on and appended to; neither the grey, nor its clone, nor what was told else changes.
func TestAnswersApart(t *testing.T) {
	for _, h := range many(t, rooms()) {
		c := h.clone(t)
		want := h.plain.all()
		told := [][]int{h.grey.All(), c.grey.All(), h.grey.All(), c.grey.All(), h.grey.Clone().All()}
		for i, l := range told {
			spoil(l)
			h.look(t, "what All told was written on")
			c.look(t, "what All told was written on")
			for _, later := range told[i+1:] {
				if !slices.Equal(later, want) {
					t.Fatalf("P2: two answers of All share memory: %v; want %v", later, want)
				}
			}
		}
		h.check(t, "all that All told was written on")
		c.check(t, "all that All told was written on")
	}
}

// TestToldStays: P2: what All told stays as it was, whatever the grey and its clone do then, and whoever appends to it.
func TestToldStays(t *testing.T) {
	for _, h := range many(t, rooms()) {
		c := h.clone(t)
		want := h.plain.all()
		told := [][]int{h.grey.All(), c.grey.All()}
		tell := func(when string) {
			t.Helper()
			for i, l := range told {
				if !slices.Equal(l[:len(want)], want) {
					t.Fatalf("P2: %s: what All told is %v; want %v", when, l, want)
				}
				told[i] = append(l, 500+i)
			}
		}
		h.quiet, c.quiet = true, true
		h.mix(t)
		tell("mixed")
		for a := range 300 {
			c.clear(t, a)
		}
		tell("the clone cleared")
		h.shades(t, some(400))
		tell("shaded")
		c.mix(t)
		tell("the clone mixed")
		for a := range addresses {
			h.clear(t, a)
		}
		tell("all cleared")
		for i, l := range told {
			if n := len(want); len(l) != n+5 || l[n] != 500+i || l[n+4] != 500+i {
				t.Fatalf("P2: what was appended is %v", l[n:])
			}
		}
		h.check(t, "what All told was appended to")
		c.check(t, "the clone, what All told was appended to")
	}
}

// calls are all calls that change a grey, by name, some of them with more than one argument.
func calls() []string {
	return []string{"Shade", "Shade another", "Black", "Clear", "Clear another", "Next", "Rest", "Settle"}
}

// do calls it.
func (h *held) do(t *testing.T, name string) {
	t.Helper()
	switch name {
	case "Shade":
		h.shade(t, 0)
	case "Shade another":
		h.shade(t, 2047)
	case "Black":
		h.black(t, 64)
	case "Clear":
		h.clear(t, 0)
	case "Clear another":
		h.clear(t, 64)
	case "Next":
		h.next(t)
	case "Rest":
		h.rest(t, entry(64, 7))
	case "Settle":
		h.settle(t)
	}
}

// TestClone: the same marks, room, what waits and note, and so the clone's clone.
func TestClone(t *testing.T) {
	for _, h := range many(t, rooms()) {
		noted := h.grey.Over()
		c := h.grey.Clone().Clone()
		if c.Count() != h.grey.Count() || c.Over() != noted || c.Waiting() != h.grey.Waiting() || !slices.Equal(c.All(), h.grey.All()) {
			t.Fatalf("P18.1: with room for %d, the clone has marks %v, %d wait, Over() = %t; want %v, %d, %t", h.plain.room, c.All(), c.Waiting(), c.Over(), h.grey.All(), h.grey.Waiting(), noted)
		}
		for a := range addresses {
			if c.Is(a) != h.grey.Is(a) || c.Black(a) == h.grey.Is(a) {
				t.Fatalf("P18.1: of a clone, Is(%d) or Black(%d) is not as the marks are", a, a)
			}
		}
		c.Settle()
		for i := c.Waiting(); i < h.plain.room; i++ {
			if !c.Rest(entry(i, i)) || c.Over() {
				t.Fatalf("P18.1: a clone with room for %d, of which %d wait, has no room", h.plain.room, i)
			}
		}
		if c.Rest(entry(0, 0)) || !c.Over() || h.grey.Over() != noted {
			t.Fatalf("P18.1: a full clone with room for %d has room for one more, or its loss is not noted, or another's", h.plain.room)
		}
		h.check(t, "its clone went on")
	}
}

// TestCloneApart: the grey goes on and the clone stays; the clone goes on and the grey stays; and the clone's clone.
func TestCloneApart(t *testing.T) {
	for _, h := range many(t, []int{1, 2, 5, 64, 256}) {
		for _, name := range calls() {
			a := h.clone(t)
			b := a.clone(t)
			c := b.clone(t)
			a.do(t, name)
			b.look(t, "the grey went on: "+name)
			c.glance(t, "the grey went on: "+name)
			b.do(t, name)
			b.do(t, name)
			a.look(t, "the clone went on: "+name)
			c.glance(t, "the clone went on: "+name)
			c.do(t, "Next")
			c.do(t, "Rest")
			c.do(t, name)
			a.nextAll(t)
			b.nextAll(t)
			c.nextAll(t)
			a.look(t, "all taken")
			b.look(t, "all taken")
			c.look(t, "all taken")
		}
		h.check(t, "its clones went on")
	}
}

// TestCloneByTurns: P2: one more waits on the grey, and another on the clone, over each number that waits, behind Next too: each has its own.
func TestCloneByTurns(t *testing.T) {
	for n := range 70 {
		for taken := range min(n, 3) + 1 {
			g := shade.New(most)
			g.Rest(entry(9, 9))
			for _, a := range some(n + taken) {
				g.Shade(a)
			}
			for range taken {
				g.Next()
			}
			c := g.Clone()
			one, other := g, c
			if n%2 == 1 {
				one, other = c, g
			}
			one.Rest(entry(100, 1))
			other.Rest(entry(200, 2))
			one.Rest(entry(101, 3))
			for _, want := range []stack.Entry{entry(101, 3), entry(100, 1)} {
				if got, ok := one.Next(); got != want || !ok {
					t.Fatalf("P18.1: over %d that wait, by turns with a clone: %v, %t; want %v", n+1, got, ok, want)
				}
			}
			if got, ok := other.Next(); got != entry(200, 2) || !ok || one.Waiting() != n+1 || other.Waiting() != n+1 {
				t.Fatalf("P18.1: over %d that wait, by turns with a clone: %v, %t; want %v; %d and %d wait", n+1, got, ok, entry(200, 2), one.Waiting(), other.Waiting())
			}
		}
	}
}

// TestNotMade: of nil, and of a grey that New did not make: false, zero, 0, nothing, nil, again and again.
func TestNotMade(t *testing.T) {
	var none *shade.Grey
	var zero shade.Grey
	for i, g := range []*shade.Grey{nil, none, none.Clone(), &zero, {}, new(shade.Grey), zero.Clone()} {
		tell := func(when string) {
			t.Helper()
			if g.Count() != 0 || g.Waiting() != 0 || g.Over() || len(g.All()) != 0 {
				t.Fatalf("P18.1: number %d that New did not make: %s: Count() = %d, Waiting() = %d, Over() = %t, All() = %v", i, when, g.Count(), g.Waiting(), g.Over(), g.All())
			}
			if c := g.Clone(); c != nil {
				t.Fatalf("P18.1: number %d that New did not make: %s: Clone() = %v; want nil", i, when, c)
			}
		}
		for range 3 {
			tell("asked")
			for _, a := range append(outside(), 0, 1, 63, 64, 1000, 2047) {
				if g.Shade(a) || g.Black(a) || g.Is(a) || g.Clear(a) {
					t.Fatalf("P18.1: number %d that New did not make: Shade, Black, Is or Clear of %d = true", i, a)
				}
				tell("Shade and others")
			}
			for _, e := range oddEntries() {
				if g.Rest(e) {
					t.Fatalf("P18.1: number %d that New did not make: Rest(%v) = true", i, e)
				}
				tell("Rest")
			}
			if e, ok := g.Next(); e != (stack.Entry{}) || ok {
				t.Fatalf("P18.1: number %d that New did not make: Next() = %v, %t; want zero, false", i, e, ok)
			}
			if g.Rest(entry(1, 1)) || g.Settle() || g.Settle() {
				t.Fatalf("P18.1: number %d that New did not make: Rest or Settle = true", i)
			}
			tell("Settle")
		}
	}
}

// TestShortScripts: all scripts of few calls, over greys of little room, with all that is told behind each call, on clones and on the grey itself.
func TestShortScripts(t *testing.T) {
	for i, room := range []int{1, 2, 3} {
		var from func(h *held, script []string, left int)
		from = func(h *held, script []string, left int) {
			if left == 0 {
				h.check(t, "a short script")
				// Once more, without a clone between.
				again := newHeld(room)
				for _, name := range script {
					again.do(t, name)
				}
				again.nextAll(t)
				again.look(t, "a short script, without a clone")
				return
			}
			for _, name := range calls() {
				next := h.clone(t)
				next.do(t, name)
				from(next, append(slices.Clone(script), name), left-1)
			}
			h.look(t, "clones went on")
		}
		from(newHeld(room), nil, []int{4, 3, 3}[i])
	}
}

// TestApart: P3: greys that are none of another one's clones have nothing in common.
func TestApart(t *testing.T) {
	a, b := newHeld(3), newHeld(3)
	list := calls()
	for i := range 400 {
		a.do(t, list[i*i%11%len(list)])
		b.look(t, "another one went on")
		if i%3 == 0 {
			b.do(t, list[i%7%len(list)])
			a.look(t, "another one went on")
		}
	}
	newHeld(3).check(t, "new, behind others")
}

// rule makes numbers one behind the other, always the same.
type rule uint64

func (r *rule) below(n int) int {
	*r = *r*6364136223846793005 + 1442695040888963407
	return int(uint64(*r)>>33) % n
}

// address is one of few, so that it is met again, or any, or none.
func (r *rule) address() int {
	switch r.below(8) {
	case 0:
		return outside()[r.below(len(outside()))]
	case 1, 2, 3:
		return r.below(addresses)
	default:
		return r.below(24) * 89
	}
}

// step does one thing; where it is up, more comes to wait than is taken.
func (h *held) step(t *testing.T, r *rule, up bool) {
	t.Helper()
	lets := 4
	if up {
		lets = 10
	}
	switch n := r.below(16); {
	case n == 0:
		h.settle(t)
	case n <= 2:
		h.black(t, r.address())
	case n <= 4:
		h.clear(t, r.address())
	case n <= 4+lets/4:
		e := entry(r.below(addresses), r.below(127))
		if r.below(4) == 0 {
			e = oddEntries()[r.below(len(oddEntries()))]
		}
		h.rest(t, e)
	case n <= 4+lets:
		h.shade(t, r.address())
	default:
		h.next(t)
	}
}

// met is how often a script met what.
type met struct {
	lost, none, again, marked int
}

func (m *met) count(h *held, was *plain) {
	waited, waiting := len(was.list), len(h.plain.list)
	if !was.over && h.plain.over {
		m.lost++
	}
	if waited == 0 && waiting == 0 {
		m.none++
	}
	if slices.Equal(was.all(), h.plain.all()) {
		m.again++
	} else {
		m.marked++
	}
}

// TestScripts: long scripts of all calls, step by step, with all that the calls tell behind each one; the quiet ones are looked at behind all, and not cloned on their way.
func TestScripts(t *testing.T) {
	for seed, room := range []int{1, 2, 3, 5, 8, 17, 40} {
		for _, quiet := range []bool{false, true} {
			h := newHeld(room)
			h.quiet = quiet
			r := rule(seed)
			var m met
			for i := range 1500 + 24*room {
				was := h.plain.clone()
				h.step(t, &r, i/(8*room+20)%2 == 0)
				m.count(h, was)
				if !quiet {
					h.look(t, "in a script")
				}
				if !quiet && i%97 == 0 {
					h.check(t, "in a script")
				}
				if !quiet && i%397 == 0 {
					h = h.clone(t)
				}
			}
			h.check(t, "behind a script")
			if m.lost < 10 || m.none < 10 || m.again < 100 || m.marked < 100 {
				t.Errorf("script %d lost anew, had none waiting, changed no mark, and marks, that often: %v: too few", seed, m)
			}
		}
	}
}

// TestClonesGoOnByTurns: long scripts of two that were one.
func TestClonesGoOnByTurns(t *testing.T) {
	for seed, room := range rooms() {
		h := newHeld(room)
		r := rule(1000 + seed)
		for range 2 * room {
			h.step(t, &r, true)
		}
		c := h.clone(t)
		for i := range 300 {
			h.step(t, &r, i%60 < 30)
			c.glance(t, "the grey went on")
			c.step(t, &r, i%40 < 20)
			h.glance(t, "the clone went on")
		}
		h.check(t, "the clone went on")
		c.check(t, "the grey went on")
	}
}

// TestNothingElse: P3: the same script answers the same each time, with another one between.
func TestNothingElse(t *testing.T) {
	run := func(seed int) []int {
		g := shade.New(9)
		r := rule(seed)
		var told []int
		for range 500 {
			switch r.below(6) {
			case 0:
				g.Settle()
			case 1:
				e, _ := g.Next()
				told = append(told, e.At, e.From)
			case 2:
				g.Rest(entry(r.below(99), r.below(9)))
			case 3:
				g.Clear(r.below(60))
			default:
				g.Shade(r.below(60))
			}
			told = append(told, g.All()...)
			told = append(told, -g.Waiting())
		}
		return told
	}
	wanted := run(7)
	for seed := range 10 {
		run(seed)
		if !slices.Equal(run(7), wanted) {
			t.Fatal("P3: a script told otherwise when it was run again")
		}
	}
}
