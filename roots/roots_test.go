package roots_test

import (
	"slices"
	"testing"

	"scutage/api"
	"scutage/roots"
)

// TestExample: the chapter's: twice the same reference: one of Refs.
func TestExample(t *testing.T) {
	var r roots.Roots
	if !r.Push(reference(9)) || !r.Push(reference(9)) {
		t.Error("P14.1: Push: the same reference may be there twice")
	}
	if got, want := r.Refs(), []int{9}; !slices.Equal(got, want) || r.Len() != 2 {
		t.Errorf("P14.1: Refs() = %v; want %v; Len() = %d; want 2", got, want, r.Len())
	}
}

// TestWrittenOut: roots worked out by hand from the chapter.
func TestWrittenOut(t *testing.T) {
	r := &roots.Roots{}
	for _, x := range []struct {
		v    api.Value
		want bool
	}{{reference(2047), true}, {number(-7), true}, {reference(2048), false}, {nothing(), true}, {api.Value{N: 1}, false}, {reference(0), true},
		{api.Value{Kind: 3}, false}, {reference(2047), true}, {number(0), true}, {reference(3), true}} {
		if got := r.Push(x.v); got != x.want {
			t.Errorf("P14.1: Push(%v) = %t; want %t", x.v, got, x.want)
		}
	}
	want := []api.Value{{Kind: 2, N: 2047}, {Kind: 1, N: -7}, {}, {Kind: 2, N: 0}, {Kind: 2, N: 2047}, {Kind: 1, N: 0}, {Kind: 2, N: 3}}
	if got := r.All(); !slices.Equal(got, want) || r.Len() != 7 {
		t.Errorf("P14.1: All() = %v; want %v; Len() = %d; want 7", got, want, r.Len())
	}
	for i, w := range want {
		if got, ok := r.Get(i); got != w || !ok {
			t.Errorf("P14.1: Get(%d) = %v, %t; want %v, true", i, got, ok, w)
		}
	}
	if got, want := r.Refs(), []int{2047, 0, 3}; !slices.Equal(got, want) {
		t.Errorf("P14.1: Refs() = %v; want %v", got, want)
	}
	c := r.Clone()
	for i := len(want) - 1; i >= 0; i-- {
		if got, ok := r.Pop(); got != want[i] || !ok {
			t.Errorf("P14.1: Pop() = %v, %t; want %v, true", got, ok, want[i])
		}
	}
	if got, ok := r.Pop(); got != nothing() || ok {
		t.Errorf("P14.1: Pop() = %v, %t; want nothing and false", got, ok)
	}
	if got := c.All(); !slices.Equal(got, want) {
		t.Errorf("P14.1: of the clone, All() = %v; want %v", got, want)
	}
}

// zeros are roots that nobody told anything.
func zeros() []*roots.Roots {
	var r roots.Roots
	return []*roots.Roots{&r, {}, new(roots.Roots), new(roots.Roots).Clone()}
}

// TestZero: the zero one is empty, whatever is asked first, and goes on as any other one.
func TestZero(t *testing.T) {
	for _, r := range zeros() {
		h := &held{roots: r, plain: &plain{}}
		h.check(t, "zero")
		h.checkFar(t, "zero")
		for range 2 {
			if h.pop(t) {
				t.Fatal("P14.1: of the zero one, Pop is true")
			}
		}
		h.clear(t)
		h.clone(t).check(t, "a clone of the zero one")
		h.push(t, reference(0))
	}
	for _, r := range zeros() {
		h := &held{roots: r, plain: &plain{}}
		h.pop(t)
		h.push(t, number(3))
	}
	for _, r := range zeros() {
		h := &held{roots: r, plain: &plain{}}
		h.clear(t)
		h.push(t, nothing())
	}
	if n, l, refs := new(roots.Roots).Len(), new(roots.Roots).All(), new(roots.Roots).Refs(); n != 0 || len(l) != 0 || len(refs) != 0 {
		t.Errorf("P14.1: of the zero one, Len, All, Refs: %d, %v, %v", n, l, refs)
	}
}

// TestPushRight: each value that may be: onto none, onto one, as the last one that has room, and one beyond it.
func TestPushRight(t *testing.T) {
	for _, v := range rights() {
		h := newHeld()
		if !h.push(t, v) {
			t.Fatalf("P14.1: Push(%v) = false; want true", v)
		}
		h.push(t, v)
		for how := range ways {
			h = laid(t, filled(most-1, how)...)
			if !h.push(t, v) {
				t.Fatalf("P14.1: of 15, Push(%v) = false; want true", v)
			}
			if h.push(t, v) {
				t.Fatalf("P14.1: of 16, Push(%v) = true; want false", v)
			}
			h.pop(t)
			h.push(t, v)
		}
	}
}

// TestPushWrong: each value that may not be, onto each number of values: refused, and nothing changes.
func TestPushWrong(t *testing.T) {
	for _, h := range many(t) {
		for _, v := range wrongs() {
			if h.push(t, v) {
				t.Fatalf("P14.1: of %v, Push(%v) = true; want false", h.plain.list, v)
			}
		}
		// Were one counted, or left behind, it would be met here.
		h.push(t, reference(1))
		for h.pop(t) {
		}
	}
}

// TestPushEnds: the numbers and references next to each end, and nothing next to 0: each is taken, or refused, by the chapter's words.
func TestPushEnds(t *testing.T) {
	for _, end := range []int64{0, 2047, 1<<40 - 1, -1 << 40, least, greatest} {
		for by := int64(-4); by <= 4; by++ {
			n := end + by
			for kind := -2; kind <= 5; kind++ {
				h := laid(t, reference(6))
				h.push(t, api.Value{Kind: kind, N: n})
				h.push(t, number(1))
			}
		}
	}
}

// TestPushEachReference: each address, and as many beyond each end.
func TestPushEachReference(t *testing.T) {
	for a := int64(-2048); a < 2*2048; a++ {
		h := laid(t, nothing())
		if got, want := h.push(t, reference(a)), a >= 0 && a < 2048; got != want {
			t.Fatalf("P14.1: Push of the reference to %d = %t; want %t", a, got, want)
		}
	}
}

// TestPushBeyond: where 16 are there, what may be and what may not be is refused alike, and nothing changes.
func TestPushBeyond(t *testing.T) {
	for how := range ways {
		h := laid(t, filled(most, how)...)
		for _, v := range append(rights(), wrongs()...) {
			if h.push(t, v) {
				t.Fatalf("P14.1: of 16, Push(%v) = true; want false", v)
			}
		}
		for range 300 {
			h.push(t, reference(1))
		}
		for h.pop(t) {
		}
	}
}

// TestPushOneByOne: up to 16, and beyond, with all that is told behind each one.
func TestPushOneByOne(t *testing.T) {
	for how := range ways {
		h := newHeld()
		for i, v := range filled(40, how) {
			if got, want := h.push(t, v), i < most; got != want {
				t.Fatalf("P14.1: Push number %d = %t; want %t", i, got, want)
			}
		}
	}
}

// TestPop: of each number of values, the topmost one first, until there is none, and once more; and Push again behind it.
func TestPop(t *testing.T) {
	for _, h := range many(t) {
		n := len(h.plain.list)
		for i := range n {
			if !h.pop(t) {
				t.Fatalf("P14.1: Pop number %d of %d values is false", i, n)
			}
		}
		for range 3 {
			if h.pop(t) {
				t.Fatalf("P14.1: of none, behind %d values, Pop is true", n)
			}
		}
		for i := range most + 1 {
			h.push(t, reference(int64(3*i)))
		}
	}
}

// TestPopSome: of each number of values, each number of Pops, and then as many as have room again.
func TestPopSome(t *testing.T) {
	for n := range most + 1 {
		for pops := range n + 1 {
			for how := range ways {
				h := laid(t, filled(n, how)...)
				for range pops {
					h.pop(t)
				}
				for h.push(t, reference(int64(1000+h.roots.Len()))) {
				}
				if h.roots.Len() != most {
					t.Fatalf("P14.1: of %d values, behind %d Pops: room for %d; want 16", n, pops, h.roots.Len())
				}
				for h.pop(t) {
				}
			}
		}
	}
}

// TestGet: each place of roots with none to 16, one beyond each end, and far beyond; nothing changes by asking.
func TestGet(t *testing.T) {
	for _, h := range many(t) {
		h.check(t, "asked")
		h.checkFar(t, "asked")
		h.check(t, "asked far beyond")
	}
	for _, h := range []*held{laid(t), laid(t, number(4)), laid(t, filled(most, mixed)...)} {
		for _, i := range []int{-1, h.roots.Len(), least, greatest} {
			if v, ok := h.roots.Get(i); ok || v != nothing() {
				t.Errorf("P14.1: of %v, Get(%d) = %v, %t; want nothing and false", h.plain.list, i, v, ok)
			}
		}
	}
}

// TestGetBehindPop: a value that is gone is at no place, nor when fewer are there, nor behind Clear.
func TestGetBehindPop(t *testing.T) {
	h := laid(t, filled(most, rising)...)
	for n := most - 1; n >= 0; n-- {
		h.pop(t)
		for i := n; i <= most; i++ {
			if v, ok := h.roots.Get(i); ok || v != nothing() {
				t.Fatalf("P14.1: of %d values, Get(%d) = %v, %t; want nothing and false", n, i, v, ok)
			}
		}
	}
}

// TestAll: with none, one, and 16, each value that may be at each place.
func TestAll(t *testing.T) {
	if l := laid(t).roots.All(); len(l) != 0 {
		t.Errorf("P14.1: of none, All() = %v", l)
	}
	for _, v := range rights() {
		if got, want := laid(t, v).roots.All(), []api.Value{v}; !slices.Equal(got, want) {
			t.Errorf("P14.1: All() = %v; want %v", got, want)
		}
		for at := range most {
			l := filled(most, numbers)
			l[at] = v
			if got := laid(t, l...).roots.All(); !slices.Equal(got, l) {
				t.Errorf("P14.1: All() = %v; want %v", got, l)
			}
		}
	}
}

// TestRefs: lists worked out by hand from the chapter.
func TestRefs(t *testing.T) {
	a, b, c, zero, last := reference(5), reference(6), reference(4), reference(0), reference(2047)
	for _, x := range []struct {
		l    []api.Value
		want []int
	}{
		// no reference
		{nil, nil},
		{[]api.Value{nothing()}, nil},
		{[]api.Value{number(5)}, nil},
		{[]api.Value{nothing(), number(0), number(2047), nothing()}, nil},
		// one
		{[]api.Value{a}, []int{5}},
		{[]api.Value{zero}, []int{0}},
		{[]api.Value{last}, []int{2047}},
		{[]api.Value{number(1), a, nothing()}, []int{5}},
		// the same one, next to each other and apart
		{[]api.Value{a, a}, []int{5}},
		{[]api.Value{a, a, a}, []int{5}},
		{[]api.Value{zero, zero}, []int{0}},
		{[]api.Value{a, b, a}, []int{5, 6}},
		{[]api.Value{b, a, a, b}, []int{6, 5}},
		{[]api.Value{a, nothing(), a, number(5), a}, []int{5}},
		{[]api.Value{zero, a, zero, a, zero}, []int{0, 5}},
		// the order in which they stand there first, not rising
		{[]api.Value{b, c, a}, []int{6, 4, 5}},
		{[]api.Value{last, zero}, []int{2047, 0}},
		{[]api.Value{c, b, c, a, b, zero}, []int{4, 6, 5, 0}},
		// others with the same N
		{[]api.Value{number(5), a}, []int{5}},
		{[]api.Value{a, number(5)}, []int{5}},
		{[]api.Value{nothing(), zero}, []int{0}},
		{[]api.Value{zero, nothing(), number(0)}, []int{0}},
		{[]api.Value{number(0), nothing(), zero, number(0), a, number(6)}, []int{0, 5}},
	} {
		r := &roots.Roots{}
		for _, v := range x.l {
			r.Push(v)
		}
		if got := r.Refs(); !slices.Equal(got, x.want) {
			t.Errorf("P14.1: of %v, Refs() = %v; want %v", x.l, got, x.want)
		}
		if got := r.All(); !slices.Equal(got, x.l) {
			t.Errorf("P14.1: behind Refs, All() = %v; want %v", got, x.l)
		}
	}
}

// TestShortLists: all lists of up to five values of six that are alike in parts.
func TestShortLists(t *testing.T) {
	few := []api.Value{nothing(), number(0), number(5), reference(0), reference(5), reference(2047)}
	lists := [][]api.Value{nil}
	for range 5 {
		var longer [][]api.Value
		for _, l := range lists {
			laid(t, l...)
			for _, v := range few {
				longer = append(longer, append(slices.Clone(l), v))
			}
		}
		lists = longer
	}
	for _, l := range lists {
		laid(t, l...)
	}
}

// TestRefsOfEach: each address, with such as differ from it in one binary digit, and with its neighbours.
func TestRefsOfEach(t *testing.T) {
	for a := range int64(2048) {
		l := []api.Value{reference(a), number(a)}
		for digit := range 11 {
			l = append(l, reference(a^1<<digit))
		}
		h := laid(t, append(l, reference(a), reference(2047-a))...)
		if n := len(h.roots.Refs()); n < 12 {
			t.Fatalf("P14.1: of %v, %d of Refs; want 12 or more", l, n)
		}
	}
}

// TestRefsOfSixteen: all another one, all the same one, and the same one at each two places.
func TestRefsOfSixteen(t *testing.T) {
	for first := range most {
		for again := range first {
			l := filled(most, rising)
			slices.Reverse(l)
			l[first] = l[again]
			if n := len(laid(t, l...).roots.Refs()); n != most-1 {
				t.Fatalf("P14.1: of %v, %d of Refs; want 15", l, n)
			}
		}
	}
	if n := len(laid(t, filled(most, rising)...).roots.Refs()); n != most {
		t.Errorf("P14.1: of 16 references, %d of Refs; want 16", n)
	}
	if n := len(laid(t, filled(most, same)...).roots.Refs()); n != 1 {
		t.Errorf("P14.1: of 16 times the same reference, %d of Refs; want 1", n)
	}
}

// TestClear: with none and with some, twice, and Push, up to 16 and beyond, behind it.
func TestClear(t *testing.T) {
	for _, h := range many(t) {
		h.clear(t)
		if n := h.roots.Len(); n != 0 {
			t.Fatalf("P14.1: behind Clear, Len() = %d; want 0", n)
		}
		h.clear(t)
		h.pop(t)
		h.checkFar(t, "cleared")
		for i, v := range filled(most+1, mixed) {
			if got, want := h.push(t, v), i < most; got != want {
				t.Fatalf("P14.1: behind Clear, Push number %d = %t; want %t", i, got, want)
			}
		}
		h.clear(t)
		h.push(t, number(2))
		h.clear(t)
	}
}

// scribble writes on all of l, behind its end too.
func scribble[E any](l []E, e E) {
	l = l[:cap(l)]
	for i := range l {
		l[i] = e
	}
}

// TestAnswersApart: P2: what All and Refs told can be written on; neither the roots nor what was told else changes.
func TestAnswersApart(t *testing.T) {
	for _, h := range many(t) {
		c := h.clone(t)
		all, refs := h.roots.All(), h.roots.Refs()
		allAgain, refsAgain := h.roots.All(), h.roots.Refs()
		scribble(all, reference(77))
		scribble(refs, 78)
		h.check(t, "what was told was written on")
		c.check(t, "what was told was written on")
		if !slices.Equal(allAgain, h.plain.list) || !slices.Equal(refsAgain, h.plain.refs()) {
			t.Fatalf("P2: two answers share memory: %v, %v; want %v, %v", allAgain, refsAgain, h.plain.list, h.plain.refs())
		}
		// What was told ahead stays, whatever comes of the roots.
		list, addresses := slices.Clone(h.plain.list), h.plain.refs()
		h.pop(t)
		h.push(t, reference(79))
		h.push(t, reference(80))
		h.clear(t)
		for h.push(t, reference(81)) {
		}
		if !slices.Equal(allAgain, list) || !slices.Equal(refsAgain, addresses) {
			t.Fatalf("P2: an answer changed with the roots: %v, %v; want %v, %v", allAgain, refsAgain, list, addresses)
		}
		h.push(t, reference(82))
		scribble(allAgain, number(83))
		h.check(t, "what was told ahead was written on")
		c.check(t, "what was told ahead was written on")
	}
}

// goOn are the ways in which roots go on: Push, Pop, Clear, and some of them together.
func goOn() []func(t *testing.T, h *held) {
	push := func(t *testing.T, h *held) { h.push(t, reference(90)) }
	pop := func(t *testing.T, h *held) { h.pop(t) }
	empty := func(t *testing.T, h *held) { h.clear(t) }
	instead := func(t *testing.T, h *held) {
		pop(t, h)
		h.push(t, number(91))
	}
	anew := func(t *testing.T, h *held) {
		empty(t, h)
		for h.push(t, reference(92)) {
		}
	}
	return []func(t *testing.T, h *held){push, pop, empty, instead, anew, push, pop, anew, empty, push}
}

// TestCloneApart: the roots go on and the clone stays; the clone goes on and the roots stay; and the clone's clone.
func TestCloneApart(t *testing.T) {
	for _, do := range goOn() {
		for _, h := range many(t) {
			c := h.clone(t)
			d := c.clone(t)
			c.check(t, "cloned")
			do(t, h)
			c.check(t, "the roots went on")
			do(t, c)
			h.check(t, "the clone went on")
			d.check(t, "the clone went on")
			d.push(t, number(5))
			do(t, d)
			h.check(t, "the clone's clone went on")
			c.check(t, "the clone's clone went on")
		}
	}
	for _, h := range many(t) {
		c := h.clone(t)
		for _, do := range goOn() {
			do(t, c)
			h.check(t, "the clone went on")
		}
		e := h.clone(t)
		for _, do := range goOn() {
			do(t, h)
			c.check(t, "the roots went on")
			e.check(t, "the roots went on")
		}
	}
}

// TestClonesOfOne: several clones of the same roots, and the roots, each with another value on top.
func TestClonesOfOne(t *testing.T) {
	for n := range most {
		h := laid(t, filled(n, rising)...)
		var l []*held
		for range 5 {
			l = append(l, h.clone(t))
		}
		for i, c := range append(l, h) {
			c.push(t, number(int64(i)))
		}
		for _, c := range append(l, h) {
			c.check(t, "each with another value on top")
		}
	}
}

// TestNil: of nil: false, zero, nothing, nil, whatever it is told, again and again.
func TestNil(t *testing.T) {
	var none *roots.Roots
	for _, r := range []*roots.Roots{nil, none, none.Clone()} {
		h := &held{roots: r, plain: &plain{none: true}}
		for range 2 {
			h.check(t, "nil")
			h.checkFar(t, "nil")
			for _, v := range append(rights(), wrongs()...) {
				if h.push(t, v) {
					t.Fatalf("P14.1: of nil, Push(%v) = true; want false", v)
				}
			}
			if h.pop(t) {
				t.Fatal("P14.1: of nil, Pop is true")
			}
			h.clear(t)
			if c := r.Clone(); c != nil {
				t.Fatalf("P14.1: of nil, Clone() = %v; want nil", c)
			}
		}
	}
}

// TestApart: P3: roots that are none of another one's clones have nothing in common.
func TestApart(t *testing.T) {
	a, b := newHeld(), newHeld()
	for i, v := range filled(most, mixed) {
		a.push(t, v)
		b.check(t, "another one went on")
		if i%3 == 0 {
			b.push(t, reference(int64(i)))
			a.check(t, "another one went on")
		}
	}
	b.clear(t)
	a.check(t, "another one was cleared")
	for a.pop(t) {
	}
	newHeld().check(t, "new, behind others")
}

// rule makes numbers one behind the other, always the same.
type rule uint64

func (r *rule) below(n int) int {
	*r = *r*6364136223846793005 + 1442695040888963407
	return int(uint64(*r)>>33) % n
}

// of is one of l.
func of[E any](r *rule, l []E) E {
	return l[r.below(len(l))]
}

// step does one thing, now and then one that can't be; the greater lean is, up to 20, the more of them are Pop.
func (h *held) step(t *testing.T, r *rule, lean int) {
	t.Helper()
	switch n := r.below(20); {
	case n == 0:
		h.checkGet(t, of(r, far()), "in a script")
	case n == 1 && r.below(8) == 0:
		h.clear(t)
	case n < 4:
		h.push(t, of(r, wrongs()))
	case n < lean:
		h.pop(t)
	case n%2 == 0:
		// Few addresses, so that some are there again and again.
		h.push(t, reference(int64(300*r.below(7))))
	default:
		h.push(t, of(r, rights()))
	}
}

// TestScripts: long scripts of Push, Pop, Clear and Get, step by step, with all that is told behind each one; they go up to 16 and down to none.
func TestScripts(t *testing.T) {
	for seed := range 20 {
		h := newHeld()
		r := rule(seed)
		full, empty, again := 0, 0, 0
		for i := range 3000 {
			h.step(t, &r, []int{8, 12, 15}[i/40%3])
			h.check(t, "in a script")
			switch n := h.roots.Len(); {
			case n == most:
				full++
			case n == 0:
				empty++
			}
			// What the roots tell is what is held, so this counts by it.
			references := 0
			for _, v := range h.plain.list {
				if v.Kind == 2 {
					references++
				}
			}
			if references > len(h.roots.Refs()) {
				again++
			}
		}
		if full < 100 || empty < 100 || again < 300 {
			t.Errorf("script %d was full %d times, empty %d times, and had a reference again %d times: too few", seed, full, empty, again)
		}
	}
}

// TestCloneGoesOnByTurns: long scripts of two that were one.
func TestCloneGoesOnByTurns(t *testing.T) {
	for seed := range 10 {
		h := newHeld()
		r := rule(1000 + seed)
		for range 50 + seed {
			h.step(t, &r, 10)
		}
		c := h.clone(t)
		for i := range 500 {
			h.step(t, &r, 8+i/40%2*6)
			c.check(t, "the roots went on")
			c.step(t, &r, 14-i/40%2*6)
			h.check(t, "the clone went on")
		}
	}
}

// TestNothingElse: P3: the same script answers the same each time, with another one between.
func TestNothingElse(t *testing.T) {
	run := func(seed int) []api.Value {
		h := newHeld()
		r := rule(seed)
		var told []api.Value
		for range 300 {
			h.step(t, &r, 11)
			told = append(told, h.roots.All()...)
			for _, a := range h.roots.Refs() {
				told = append(told, reference(int64(a)))
			}
		}
		return told
	}
	first := run(7)
	for seed := range 10 {
		run(seed)
		if !slices.Equal(run(7), first) {
			t.Fatal("P3: a script told otherwise when it was run again")
		}
	}
}
