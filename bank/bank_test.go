package bank_test

import (
	"testing"

	"scutage/bank"
)

// TestExample: the chapter's: with 5: Put 7 is 5, Lost 2; Take 6 is false; Spend 6 is 5.
func TestExample(t *testing.T) {
	b := bank.New(5)
	if b.Put(7) != 5 || b.Lost() != 2 || b.Take(6) || b.Spend(6) != 5 {
		t.Error("P22.1: with 5, Put 7 is not 5, Lost not 2, Take 6 not false, or Spend 6 not 5")
	}
}

// TestWrittenOut: a bank worked out by hand from the chapter.
func TestWrittenOut(t *testing.T) {
	b := bank.New(10)
	take := func(n int) int {
		if b.Take(n) {
			return 1
		}
		return 0
	}
	calls := map[string]func(int) int{"put": b.Put, "take": take, "spend": b.Spend}
	steps := []struct {
		call    string
		n, want int
		told    told
	}{
		{"take", 0, 1, told{0, 0, 0, 0}},
		{"take", 1, 0, told{0, 0, 0, 0}},
		{"spend", 3, 0, told{0, 0, 0, 0}},
		{"put", 0, 0, told{0, 0, 0, 0}},
		{"put", 4, 4, told{4, 4, 0, 0}},
		{"put", -4, 0, told{4, 4, 0, 0}},
		{"take", 5, 0, told{4, 4, 0, 0}},
		{"take", 3, 1, told{1, 4, 3, 0}},
		{"put", 10, 9, told{10, 13, 3, 1}},
		{"put", 1, 0, told{10, 13, 3, 2}},
		{"spend", -1, 0, told{10, 13, 3, 2}},
		{"take", -1, 0, told{10, 13, 3, 2}},
		{"spend", 0, 0, told{10, 13, 3, 2}},
		{"spend", 6, 6, told{4, 13, 9, 2}},
		{"spend", 6, 4, told{0, 13, 13, 2}},
		{"spend", 6, 0, told{0, 13, 13, 2}},
		{"put", 2147483648, 10, told{10, 23, 13, 2147483640}},
		{"put", 2147483649, 0, told{10, 23, 13, 4294967288}},
		{"take", 10, 1, told{0, 23, 23, 4294967288}},
		{"put", 2147483647, 10, told{10, 33, 23, 6442450925}},
		{"put", greatest, 0, told{10, 33, 23, 8589934573}},
		{"spend", greatest, 10, told{0, 33, 33, 8589934573}},
		{"take", greatest, 0, told{0, 33, 33, 8589934573}},
	}
	for i, s := range steps {
		if got := calls[s.call](s.n); got != s.want {
			t.Fatalf("P22.1: step %d: %s(%d) = %d; want %d", i, s.call, s.n, got, s.want)
		}
		if got := ask(b); got != s.told {
			t.Fatalf("P22.1: step %d: behind %s(%d): %v; want %v", i, s.call, s.n, got, s.told)
		}
	}
}

// holds is how many b keeps, all that is put and more.
func holds(b *bank.Bank) int {
	b.Put(mostPut)
	return b.Balance()
}

// TestNewMost: each most about the ends and far out is the nearest one that may be.
func TestNewMost(t *testing.T) {
	numbers := append(far(), rooms()...)
	for n := -5; n <= 300; n++ {
		numbers = append(numbers, n, mostRoom-n)
	}
	for _, n := range numbers {
		b := bank.New(n)
		if b == nil {
			t.Fatalf("P22.1: New(%d) = nil", n)
		}
		if got := ask(b); got != (told{}) {
			t.Fatalf("P22.1: New(%d) is not empty: %v", n, got)
		}
		want := nearest(n, 0, mostRoom)
		if got := holds(b); got != want {
			t.Fatalf("P22.1: New(%d) keeps %d; want %d", n, got, want)
		}
		h := newHeld(n)
		for range 3 {
			h.put(t, want-1)
			h.put(t, 1)
			h.put(t, 1)
			h.take(t, want+1)
			h.spend(t, want/2)
			h.put(t, want)
			h.spend(t, want+1)
		}
	}
}

// TestNewEach: each most that may be, and such as lie beyond.
func TestNewEach(t *testing.T) {
	for n := -70; n <= mostRoom+70; n++ {
		if got, want := holds(bank.New(n)), nearest(n, 0, mostRoom); got != want {
			t.Fatalf("P22.1: New(%d) keeps %d; want %d", n, got, want)
		}
	}
}

// TestNewApart: one bank's flows are no other one's.
func TestNewApart(t *testing.T) {
	a, b := newHeld(7), newHeld(7)
	a.put(t, 9)
	b.look(t, "the other one was filled")
	b.put(t, 3)
	a.take(t, 6)
	a.look(t, "gone on")
	b.look(t, "gone on")
}

// TestNoRoom: of most 0 nothing is ever kept, all is lost; but New made it.
func TestNoRoom(t *testing.T) {
	for _, most := range []int{0, -1, -65535, least} {
		h := newHeld(most)
		lost := int64(0)
		for _, n := range append(far(), -1, 0, 1, 2, 65535, 65536) {
			if h.put(t, n) != 0 {
				t.Fatalf("P22.1: of New(%d), Put(%d) keeps some", most, n)
			}
			lost += int64(nearest(n, 0, mostPut))
			if h.bank.Lost() != lost || h.bank.In() != 0 {
				t.Fatalf("P22.1: of New(%d), behind Put(%d), Lost = %d, In = %d; want %d, 0", most, n, h.bank.Lost(), h.bank.In(), lost)
			}
			if h.spend(t, n) != 0 || h.take(t, n) != (n == 0) {
				t.Fatalf("P22.1: of New(%d), Spend(%d) or Take(%d) lets some be gone", most, n, n)
			}
		}
		c := h.clone(t)
		c.put(t, 2)
		if c.bank.Lost() != lost+2 || h.bank.Lost() != lost || !c.bank.Take(0) || c.bank.Clone() == nil {
			t.Fatalf("P22.1: of New(%d), the clone is none that New made", most)
		}
		h.look(t, "its clone went on")
	}
}

// TestPut: each number about the edges and far out, into empty, half full and full ones.
func TestPut(t *testing.T) {
	for _, h := range many(t) {
		for _, n := range h.about() {
			c := h.clone(t)
			room := c.plain.most - c.plain.there
			lost := c.bank.Lost()
			kept := c.put(t, n)
			if n <= 0 && kept != 0 || n > 0 && kept != min(n, room) {
				t.Fatalf("P22.1: with room for %d, Put(%d) = %d", room, n, kept)
			}
			if got, want := c.bank.Lost()-lost, int64(nearest(n, 0, mostPut)-kept); got != want {
				t.Fatalf("P22.1: with room for %d, of Put(%d) %d are lost; want %d", room, n, got, want)
			}
			c.put(t, n)
			c.put(t, 1)
		}
		h.look(t, "its clones went on")
	}
}

// TestPutEdges: as many as there is room for, one less, one more; into an empty bank, one that is half full, and one that is full.
func TestPutEdges(t *testing.T) {
	for _, s := range []struct {
		there, n, kept int
		lost           int64
	}{
		{0, 0, 0, 0}, {0, 1, 1, 0}, {0, 99, 99, 0}, {0, 100, 100, 0}, {0, 101, 100, 1}, {0, -1, 0, 0}, {0, least, 0, 0},
		{0, mostPut - 1, 100, 2147483547}, {0, mostPut, 100, 2147483548}, {0, mostPut + 1, 100, 2147483548}, {0, greatest, 100, 2147483548},
		{50, 0, 0, 0}, {50, 1, 1, 0}, {50, 49, 49, 0}, {50, 50, 50, 0}, {50, 51, 50, 1}, {50, -1, 0, 0}, {50, -51, 0, 0}, {50, least, 0, 0},
		{50, mostPut - 1, 50, 2147483597}, {50, mostPut, 50, 2147483598}, {50, mostPut + 1, 50, 2147483598}, {50, greatest, 50, 2147483598},
		{100, 0, 0, 0}, {100, 1, 0, 1}, {100, 2, 0, 2}, {100, 100, 0, 100}, {100, -1, 0, 0}, {100, -100, 0, 0}, {100, least, 0, 0},
		{100, mostPut - 1, 0, 2147483647}, {100, mostPut, 0, 2147483648}, {100, mostPut + 1, 0, 2147483648}, {100, greatest, 0, 2147483648},
	} {
		b := bank.New(100)
		b.Put(s.there)
		want := told{s.there + s.kept, int64(s.there + s.kept), 0, s.lost}
		if kept, got := b.Put(s.n), ask(b); kept != s.kept || got != want {
			t.Errorf("P22.1: of 100, with %d: Put(%d) = %d; %v; want %d; %v", s.there, s.n, kept, got, s.kept, want)
		}
	}
}

// TestTake: each number about the edges and far out; what is refused changes nothing.
func TestTake(t *testing.T) {
	for _, h := range many(t) {
		for _, n := range h.about() {
			c := h.clone(t)
			there, was := c.plain.there, ask(c.bank)
			want := was
			if n >= 0 && n <= there {
				want.balance -= n
				want.out += int64(n)
			}
			ok := c.take(t, n)
			if ok != (n >= 0 && n <= there) || ask(c.bank) != want {
				t.Fatalf("P22.1: with %d: Take(%d) = %t; %v, from %v", there, n, ok, ask(c.bank), was)
			}
			c.take(t, n)
			c.take(t, 1)
		}
		h.look(t, "its clones went on")
	}
}

// TestTakeEdges: 0, 1, all, one more and -1; from a bank with some and from an empty one.
func TestTakeEdges(t *testing.T) {
	for _, s := range []struct {
		there, n int
		ok       bool
		left     int
	}{
		{0, 0, true, 0}, {0, 1, false, 0}, {0, -1, false, 0}, {0, least, false, 0}, {0, greatest, false, 0},
		{1, 0, true, 1}, {1, 1, true, 0}, {1, 2, false, 1}, {1, -1, false, 1}, {1, least, false, 1}, {1, greatest, false, 1},
		{6, 0, true, 6}, {6, 1, true, 5}, {6, 5, true, 1}, {6, 6, true, 0}, {6, 7, false, 6}, {6, 9, false, 6}, {6, -1, false, 6}, {6, -6, false, 6},
		{6, 1<<32 + 1, false, 6}, {6, -1<<32 + 1, false, 6}, {6, least, false, 6}, {6, least + 1, false, 6}, {6, greatest, false, 6},
		{9, 9, true, 0}, {9, 10, false, 9}, {9, -9, false, 9},
	} {
		b := bank.New(9)
		b.Put(s.there)
		want := told{s.left, int64(s.there), int64(s.there - s.left), 0}
		if ok, got := b.Take(s.n), ask(b); ok != s.ok || got != want {
			t.Errorf("P22.1: of 9, with %d: Take(%d) = %t; %v; want %t; %v", s.there, s.n, ok, got, s.ok, want)
		}
	}
}

// TestSpend: each number about the edges and far out; as many as there are, at most n.
func TestSpend(t *testing.T) {
	for _, h := range many(t) {
		for _, n := range h.about() {
			c := h.clone(t)
			there, want := c.plain.there, ask(c.bank)
			gone := nearest(n, 0, there)
			want.balance -= gone
			want.out += int64(gone)
			if got := c.spend(t, n); got != gone || ask(c.bank) != want {
				t.Fatalf("P22.1: with %d: Spend(%d) = %d; %v; want %d; %v", there, n, got, ask(c.bank), gone, want)
			}
			c.spend(t, n)
			c.spend(t, 1)
		}
		h.look(t, "its clones went on")
	}
}

// TestSpendEdges: 0, 1, all, one more and -1; from a bank with some and from an empty one.
func TestSpendEdges(t *testing.T) {
	for _, s := range []struct{ there, n, gone int }{
		{0, 0, 0}, {0, 1, 0}, {0, -1, 0}, {0, least, 0}, {0, greatest, 0},
		{1, 0, 0}, {1, 1, 1}, {1, 2, 1}, {1, -1, 0}, {1, least, 0}, {1, greatest, 1},
		{6, 0, 0}, {6, 1, 1}, {6, 5, 5}, {6, 6, 6}, {6, 7, 6}, {6, 9, 6}, {6, -1, 0}, {6, -6, 0},
		{6, 1<<32 + 1, 6}, {6, 1 << 32, 6}, {6, -1<<32 + 1, 0}, {6, least, 0}, {6, least + 1, 0}, {6, greatest, 6},
		{9, 9, 9}, {9, 10, 9}, {9, -9, 0},
	} {
		b := bank.New(9)
		b.Put(s.there)
		want := told{s.there - s.gone, int64(s.there), int64(s.gone), 0}
		if gone, got := b.Spend(s.n), ask(b); gone != s.gone || got != want {
			t.Errorf("P22.1: of 9, with %d: Spend(%d) = %d; %v; want %d; %v", s.there, s.n, gone, got, s.gone, want)
		}
	}
}

// TestRoomAgain: what is gone leaves room, just so much, that Put fills again.
func TestRoomAgain(t *testing.T) {
	for _, most := range rooms() {
		for _, gone := range append(fills(most), most/3) {
			for _, how := range []string{"take", "spend"} {
				h := newHeld(most)
				h.put(t, most)
				for range 4 {
					if how == "take" {
						h.take(t, gone)
					} else {
						h.spend(t, gone)
					}
					if kept := h.put(t, gone+2); kept != gone || h.bank.Balance() != most {
						t.Fatalf("P22.1: of %d, all there, %s(%d), then Put(%d) = %d, Balance %d; want %d, %d", most, how, gone, gone+2, kept, h.bank.Balance(), gone, most)
					}
				}
				if h.bank.Lost() != 8 {
					t.Fatalf("P22.1: of %d, %s: Lost = %d; want 8", most, how, h.bank.Lost())
				}
			}
		}
	}
}

// TestClone: equal in all that can be told, and changed on either side, nothing changes on the other one.
func TestClone(t *testing.T) {
	changes := []func(*held){
		func(h *held) { h.put(t, 1) },
		func(h *held) { h.put(t, mostPut) },
		func(h *held) { h.take(t, 1) },
		func(h *held) { h.take(t, h.plain.there) },
		func(h *held) { h.spend(t, 1) },
		func(h *held) { h.spend(t, greatest) },
	}
	for _, h := range many(t) {
		for i, change := range changes {
			a := h.clone(t)
			b := a.clone(t)
			change(a)
			b.look(t, "the one it was cloned from was changed")
			c := b.clone(t)
			change(c)
			b.look(t, "its clone was changed")
			changes[len(changes)-1-i](b)
			a.look(t, "its clone was changed")
			c.look(t, "the one it was cloned from was changed")
			// Room is told by what is kept alone.
			a.put(t, mostRoom)
			b.put(t, mostRoom)
			c.put(t, mostRoom)
		}
		h.look(t, "its clones were changed")
	}
}

// TestManyClones: of one, each goes its own way.
func TestManyClones(t *testing.T) {
	h := with(t, 20, 11, true)
	var l []*held
	for range 8 {
		l = append(l, h.clone(t))
	}
	for i, c := range l {
		c.spend(t, i)
		c.put(t, 3*i)
		c.take(t, 2*i)
	}
	for _, c := range append(l, h) {
		c.look(t, "the others went on")
	}
}

// TestNilOrNotMade: of nil, or one that New did not make: nothing is told, kept, taken or lost.
func TestNilOrNotMade(t *testing.T) {
	row := make([]bank.Bank, 1)
	inner := struct{ bank.Bank }{}
	for name, b := range map[string]*bank.Bank{"nil": nil, "not made": {}, "of a row": &row[0], "of another": &inner.Bank} {
		numbers := append(far(), rooms()...)
		for _, n := range append(numbers, -2, -1) {
			if got := b.Put(n); got != 0 {
				t.Fatalf("P22.1: %s: Put(%d) = %d", name, n, got)
			}
			if b.Take(n) {
				t.Fatalf("P22.1: %s: Take(%d) = true", name, n)
			}
			if got := b.Spend(n); got != 0 {
				t.Fatalf("P22.1: %s: Spend(%d) = %d", name, n, got)
			}
			if got := ask(b); got != (told{}) {
				t.Fatalf("P22.1: %s: behind calls with %d: %v", name, n, got)
			}
			if b.Clone() != nil {
				t.Fatalf("P22.1: %s: Clone() is not nil", name)
			}
		}
	}
}
