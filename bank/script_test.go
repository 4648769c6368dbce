package bank_test

import (
	"slices"
	"testing"

	"scutage/bank"
)

// rule gives numbers that look like none in particular, the same ones each time.
type rule uint64

func (r *rule) below(n int) int {
	*r = *r*6364136223846793005 + 1442695040888963407
	return int(uint64(*r)>>33) % n
}

// number is one that counts for this bank: small, about what there is or what there is room for, or far out.
func number(h *held, r *rule) int {
	m := h.plain
	switch r.below(8) {
	case 0:
		return r.below(5) - 1
	case 1:
		return m.there + r.below(3) - 1
	case 2:
		return m.most - m.there + r.below(3) - 1
	case 3:
		l := far()
		return l[r.below(len(l))]
	default:
		return r.below(m.most + 2)
	}
}

// step does something to a bank.
func step(t *testing.T, h *held, r *rule) {
	t.Helper()
	n := number(h, r)
	switch r.below(5) {
	case 0, 1:
		h.put(t, n)
	case 2, 3:
		h.take(t, n)
	default:
		h.spend(t, n)
	}
}

// TestScripts: long scripts for many most, with all that is told behind each step.
func TestScripts(t *testing.T) {
	l := rooms()
	for n := range 70 {
		l = append(l, n, n*937, mostRoom-n)
	}
	for i, most := range l {
		h, r := newHeld(most), rule(i+1)
		for range 400 {
			step(t, h, &r)
		}
	}
}

// TestLongScripts: longer ones, with clones among the steps.
func TestLongScripts(t *testing.T) {
	for i, most := range rooms() {
		h, r := newHeld(most), rule(i+100)
		for n := range 5000 {
			step(t, h, &r)
			if n%250 == 249 {
				c := h.clone(t)
				for range 40 {
					step(t, c, &r)
				}
				h.look(t, "its clone went on")
				if r.below(2) == 0 {
					h = c
				}
			}
		}
	}
}

// TestShortScripts: each script of four calls, in small banks.
func TestShortScripts(t *testing.T) {
	const calls, numbers = 3, 5
	for most := range 4 {
		for script := range calls * numbers * calls * numbers * calls * numbers * calls * numbers {
			h := newHeld(most)
			for rest, i := script, 0; i < 4; i++ {
				n := rest%numbers - 1
				rest /= numbers
				switch rest % calls {
				case 0:
					h.put(t, n)
				case 1:
					h.take(t, n)
				default:
					h.spend(t, n)
				}
				rest /= calls
			}
		}
	}
}

// TestInPastAll: In and Out are the whole of what came, and of what is gone, past 2^31 and past 2^32.
func TestInPastAll(t *testing.T) {
	b := bank.New(mostRoom)
	in := int64(0)
	for i := range 70000 {
		if kept := b.Put(mostRoom); kept != mostRoom {
			t.Fatalf("P22.1: in round %d, behind %d, Put(%d) = %d", i, in, mostRoom, kept)
		}
		in += mostRoom
		if got, want := ask(b), (told{mostRoom, in, in - mostRoom, 0}); got != want {
			t.Fatalf("P22.1: in round %d: %v; want %v", i, got, want)
		}
		ok := true
		if i%2 == 0 {
			ok = b.Take(mostRoom)
		} else {
			ok = b.Spend(mostRoom) == mostRoom
		}
		if got, want := ask(b), (told{0, in, in, 0}); !ok || got != want {
			t.Fatalf("P22.1: in round %d, behind Take or Spend of all, %t: %v; want %v", i, ok, got, want)
		}
	}
	if in <= 1<<32 {
		t.Fatalf("%d came: too few to tell anything", in)
	}
	if got := ask(b.Clone()); got != (told{0, in, in, 0}) {
		t.Fatalf("P22.1: behind %d, the clone: %v", in, got)
	}
}

// TestLostPastAll: Lost is the whole of what was lost, past 2^31 and far past 2^32, and hinders nothing.
func TestLostPastAll(t *testing.T) {
	for _, most := range []int{0, 1, 5, mostRoom} {
		h := newHeld(most)
		for i := range 3000 {
			h.put(t, mostPut-i%2)
			if i%100 == 50 {
				h.spend(t, most/2)
			}
		}
		if got := h.bank.Lost(); got < 2990<<31 {
			t.Fatalf("P22.1: of %d, Lost = %d", most, got)
		}
		if h.spend(t, most+1) != most || h.put(t, most) != most || !h.take(t, most) {
			t.Fatalf("P22.1: of %d, behind much that was lost, not all can come and go", most)
		}
		h.clone(t)
	}
}

// TestOneByOne: many short calls are as one long one.
func TestOneByOne(t *testing.T) {
	for most := range 40 {
		for n := range most + 5 {
			one, many := newHeld(most), newHeld(most)
			one.put(t, n)
			for range n {
				many.put(t, 1)
			}
			if ask(one.bank) != ask(many.bank) {
				t.Fatalf("P22.1: of %d, behind Put(%d): %v; behind as many of 1: %v", most, n, ask(one.bank), ask(many.bank))
			}
			gone := one.spend(t, n)
			for range gone {
				if !many.take(t, 1) {
					t.Fatalf("P22.1: of %d, of %d that Spend lets be gone, Take refuses one", most, gone)
				}
			}
			if many.take(t, 1) || many.spend(t, 1) != 0 || ask(one.bank) != ask(many.bank) {
				t.Fatalf("P22.1: of %d, behind Spend(%d): %v; behind as many Take(1): %v", most, n, ask(one.bank), ask(many.bank))
			}
		}
	}
}

// TestNothingElse: the same calls are answered the same, whatever others are told between them.
func TestNothingElse(t *testing.T) {
	script := func(between bool) []int {
		b, other := bank.New(50), bank.New(50)
		r, s := rule(7), rule(8)
		var told []int
		for range 3000 {
			n := r.below(70) - 5
			told = append(told, b.Put(n), b.Spend(r.below(40)-3))
			if b.Take(r.below(30) - 2) {
				told = append(told, -1)
			}
			told = append(told, b.Balance(), int(b.In()), int(b.Out()), int(b.Lost()))
			if between {
				other.Put(s.below(100))
				other.Take(s.below(20))
				other = other.Clone()
				b.Take(-1)
				b.Spend(-1)
				b.Put(-1)
				b.Clone().Put(s.below(100))
				ask(b)
			}
		}
		return told
	}
	if !slices.Equal(script(false), script(true)) {
		t.Error("P3: other calls between change what is answered")
	}
}
