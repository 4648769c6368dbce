package bitmap_test

import (
	"math"
	"slices"
	"testing"

	"scutage/bitmap"
)

const (
	least    = math.MinInt64
	greatest = math.MaxInt64
	most     = 2048
)

// sizes are, and are not, multiples of 8, 32 and 64, with one step to each side.
var sizes = []int{0, 1, 2, 5, 7, 8, 9, 31, 32, 33, 40, 63, 64, 65, 72, 95, 96, 97, 100, 127, 128, 129, 1000, 1023, 1024, 1025, 1984, 2016, 2040, 2047, 2048}

// beyond are numbers that are not from 0 to n - 1: next to the ends, in the same octets and words as they, and as far out as can be.
func beyond(n int) []int {
	l := []int{-1, -2, -7, -8, -31, -32, -33, -63, -64, -65, -n - 1, -most, n, n + 1, n + 7, n + 8, n + 31, n + 32, n + 63, n + 64, n + most, most, most + 1,
		1 << 31, 1<<31 - 1, 1 << 32, 1<<32 + 1, 1<<32 + n - 1, -1 << 31, -1 << 32, -1<<32 + 1, least, least + 1, least + n, greatest, greatest - 1, greatest - n}
	for _, unit := range []int{8, 32, 64} {
		for i := n; i%unit != 0; i++ {
			l = append(l, i)
		}
	}
	for _, i := range l {
		if i >= 0 && i < n {
			panic("a number that is not beyond")
		}
	}
	return l
}

// upTo is the numbers from 0 to n - 1.
func upTo(n int) []int {
	l := make([]int, n)
	for i := range l {
		l[i] = i
	}
	return l
}

// every is each step-th number below n, from first on.
func every(first int, step int, n int) []int {
	var l []int
	for i := first; i < n; i += step {
		l = append(l, i)
	}
	return l
}

// lists are what sets of numbers below n may have in them, rising.
func lists(n int) map[string][]int {
	all := map[string][]int{
		"nothing":       nil,
		"all":           upTo(n),
		"all but one":   slices.Concat(every(0, 1, min(n, 70)), every(71, 1, n)),
		"every second":  every(0, 2, n),
		"every third":   every(1, 3, n),
		"every 64th":    every(0, 64, n),
		"every 64th, 1": every(63, 64, n),
		"every 97th":    every(5, 97, n),
	}
	if n > 0 {
		all["the first"] = []int{0}
		all["the last"] = []int{n - 1}
		all["the middle"] = []int{n / 2}
	}
	if n > 1 {
		all["both ends"] = []int{0, n - 1}
	}
	if n > 64 {
		all["two words' ends"] = []int{63, 64}
	}
	return all
}

// filled is a set of numbers below n that has l in it.
func filled(t *testing.T, n int, l []int) *bitmap.Set {
	t.Helper()
	s := bitmap.New(n)
	// From behind on, so that nothing hangs on their order.
	for _, i := range slices.Backward(l) {
		if !s.Add(i) {
			t.Fatalf("P5.1: of %d, Add(%d) = false; want true", n, i)
		}
	}
	checkSet(t, s, n, l, "filled")
	return s
}

// following is what Next must answer from i on, with l in the set.
func following(l []int, i int) int {
	for _, x := range l {
		if x >= i {
			return x
		}
	}
	return -1
}

// checkSet asks every call that tells whether want, rising, is what is in s.
func checkSet(t *testing.T, s *bitmap.Set, n int, want []int, when string) {
	t.Helper()
	if got := s.Count(); got != len(want) {
		t.Fatalf("P5.1: of %d, Count() = %d; want %d: %s", n, got, len(want), when)
	}
	if got := s.All(); !slices.Equal(got, want) {
		t.Fatalf("P5.1: of %d, All() = %v; want %v: %s", n, got, want, when)
	}
	next, k := -1, len(want)-1
	for i := n - 1; i >= 0; i-- {
		has := k >= 0 && want[k] == i
		if has {
			next = i
			k--
		}
		if got := s.Has(i); got != has {
			t.Fatalf("P5.1: of %d, Has(%d) = %v; want %v: %s", n, i, got, has, when)
		}
		if got := s.Next(i); got != next {
			t.Fatalf("P5.1: of %d, Next(%d) = %d; want %d: %s", n, i, got, next, when)
		}
	}
	for _, i := range beyond(n) {
		if s.Has(i) {
			t.Fatalf("P5.1: of %d, Has(%d) = true; want false: %s", n, i, when)
		}
		if got, next := s.Next(i), following(want, i); got != next {
			t.Fatalf("P5.1: of %d, Next(%d) = %d; want %d: %s", n, i, got, next, when)
		}
	}
}

// checkBeyond tries to put numbers into s and to take them out that are none of its: nothing changes.
func checkBeyond(t *testing.T, s *bitmap.Set, n int, want []int) {
	t.Helper()
	for _, i := range beyond(n) {
		for range 2 {
			if s.Add(i) {
				t.Errorf("P5.1: of %d, Add(%d) = true; want false", n, i)
			}
			if s.Has(i) {
				t.Errorf("P5.1: of %d, Has(%d) = true behind Add; want false", n, i)
			}
			if got := s.Count(); got != len(want) {
				t.Errorf("P5.1: of %d, Count() = %d behind Add(%d); want %d", n, got, i, len(want))
			}
		}
	}
	checkSet(t, s, n, want, "after Add beyond")
	for _, i := range beyond(n) {
		for range 2 {
			if s.Remove(i) {
				t.Errorf("P5.1: of %d, Remove(%d) = true; want false", n, i)
			}
			if got := s.Count(); got != len(want) {
				t.Errorf("P5.1: of %d, Count() = %d behind Remove(%d); want %d", n, got, i, len(want))
			}
		}
	}
	checkSet(t, s, n, want, "after Remove beyond")
}

func TestNew(t *testing.T) {
	for _, c := range []struct{ n, want int }{
		{1, 1},
		{2, 2},
		{5, 5},
		{8, 8},
		{63, 63},
		{64, 64},
		{65, 65},
		{100, 100},
		{1000, 1000},
		// the ends, and beyond
		{0, 0},
		{-1, 0},
		{-2, 0},
		{-64, 0},
		{-most, 0},
		{2047, 2047},
		{2048, 2048},
		{2049, 2048},
		{2112, 2048},
		{4096, 2048},
		{1 << 31, 2048},
		{1 << 32, 2048},
		{1<<32 + 5, 2048},
		{-1 << 32, 0},
		{-1<<32 + 5, 0},
		{greatest, 2048},
		{greatest - 1, 2048},
		{least, 0},
		{least + 1, 0},
	} {
		s := bitmap.New(c.n)
		if s == nil {
			t.Fatalf("P5.1: New(%d) = nil", c.n)
		}
		checkSet(t, s, c.want, nil, "new")
		for i := -70; i < most+70; i++ {
			if got, want := s.Add(i), i >= 0 && i < c.want; got != want {
				t.Errorf("P5.1: New(%d).Add(%d) = %v; want %v", c.n, i, got, want)
			}
		}
		checkSet(t, s, c.want, upTo(c.want), "after Add of all")
	}
}

// checkOnce puts i in and takes it out, each once and again; rest is what else is in s.
func checkOnce(t *testing.T, s *bitmap.Set, n int, i int, rest []int) {
	t.Helper()
	with := slices.Sorted(slices.Values(append([]int{i}, rest...)))
	for _, c := range []struct {
		name string
		call func(int) bool
		want bool
		left []int
	}{
		{"Has", s.Has, false, rest},
		{"Remove", s.Remove, false, rest},
		{"Add", s.Add, true, with},
		{"Has", s.Has, true, with},
		{"Has", s.Has, true, with},
		{"Add", s.Add, false, with},
		{"Has", s.Has, true, with},
		{"Remove", s.Remove, true, rest},
		{"Has", s.Has, false, rest},
		{"Has", s.Has, false, rest},
		{"Remove", s.Remove, false, rest},
		{"Add", s.Add, true, with},
		{"Remove", s.Remove, true, rest},
	} {
		if got := c.call(i); got != c.want {
			t.Errorf("P5.1: of %d, %s(%d) = %v; want %v", n, c.name, i, got, c.want)
		}
		if got := s.Count(); got != len(c.left) {
			t.Errorf("P5.1: of %d, Count() = %d behind %s(%d); want %d", n, got, c.name, i, len(c.left))
		}
		checkSet(t, s, n, c.left, "after "+c.name)
	}
}

// TestOnceAndAgain: the first and the last number, and some beside the ends of octets and words, with nothing and with all else in the set.
func TestOnceAndAgain(t *testing.T) {
	for _, n := range sizes {
		for _, i := range []int{0, 1, 7, 8, 31, 32, 63, 64, 65, n / 2, n - 2, n - 1} {
			if i < 0 || i >= n {
				continue
			}
			checkOnce(t, bitmap.New(n), n, i, nil)
			rest := slices.Delete(upTo(n), i, i+1)
			checkOnce(t, filled(t, n, rest), n, i, rest)
		}
	}
}

func TestBeyond(t *testing.T) {
	for _, n := range sizes {
		for _, l := range lists(n) {
			checkBeyond(t, filled(t, n, l), n, l)
		}
	}
}

// TestEachAlone: no number stands for another one, neither put in alone nor taken out alone.
func TestEachAlone(t *testing.T) {
	none, full := bitmap.New(most), filled(t, most, upTo(most))
	for i := range most {
		if !none.Add(i) || none.Count() != 1 || !slices.Equal(none.All(), []int{i}) || none.Next(0) != i || none.Next(i+1) != -1 {
			t.Errorf("P5.1: Add(%d) to nothing: %v", i, none.All())
		}
		rest := slices.Delete(upTo(most), i, i+1)
		if !full.Remove(i) || full.Count() != most-1 || !slices.Equal(full.All(), rest) || full.Next(i) != following(rest, i) {
			t.Errorf("P5.1: Remove(%d) from all: %d are left", i, full.Count())
		}
		if !none.Remove(i) || none.Count() != 0 || !full.Add(i) || full.Count() != most {
			t.Errorf("P5.1: Remove(%d) and Add(%d) back: %d and %d", i, i, none.Count(), full.Count())
		}
	}
}

// TestNext: at places that are told one by one.
func TestNext(t *testing.T) {
	for _, c := range []struct {
		n     int
		in    []int
		calls [][2]int // from where, and the answer
	}{
		{100, []int{3, 64}, [][2]int{
			{-1, 3}, {-5, 3}, {-64, 3}, {least, 3}, {0, 3}, {2, 3}, {3, 3},
			{4, 64}, {63, 64}, {64, 64}, {65, -1}, {99, -1}, {100, -1}, {101, -1}, {128, -1}, {greatest, -1}}},
		{100, nil, [][2]int{{least, -1}, {-1, -1}, {0, -1}, {50, -1}, {99, -1}, {100, -1}, {greatest, -1}}},
		{0, nil, [][2]int{{least, -1}, {-1, -1}, {0, -1}, {1, -1}, {greatest, -1}}},
		{1, []int{0}, [][2]int{{least, 0}, {-1, 0}, {0, 0}, {1, -1}, {2, -1}, {64, -1}, {greatest, -1}}},
		{64, []int{63}, [][2]int{{least, 63}, {-1, 63}, {0, 63}, {62, 63}, {63, 63}, {64, -1}, {65, -1}, {greatest, -1}}},
		{65, []int{0, 64}, [][2]int{{-1, 0}, {0, 0}, {1, 64}, {63, 64}, {64, 64}, {65, -1}, {127, -1}, {128, -1}}},
		{2048, []int{0, 2047}, [][2]int{{least, 0}, {-1, 0}, {0, 0}, {1, 2047}, {64, 2047}, {1984, 2047}, {2046, 2047}, {2047, 2047}, {2048, -1}, {2049, -1}, {greatest, -1}}},
		{2048, []int{1000}, [][2]int{{-1, 1000}, {0, 1000}, {999, 1000}, {1000, 1000}, {1001, -1}, {2047, -1}, {2048, -1}}},
	} {
		s := filled(t, c.n, c.in)
		for _, call := range c.calls {
			if got := s.Next(call[0]); got != call[1] {
				t.Errorf("P5.1: of %d, with %v, Next(%d) = %d; want %d", c.n, c.in, call[0], got, call[1])
			}
		}
	}
}

// TestClear: all are gone, can be put in again, and no more than ahead may be.
func TestClear(t *testing.T) {
	for _, n := range sizes {
		for name, l := range lists(n) {
			s := filled(t, n, l)
			for range 2 {
				s.Clear()
				checkSet(t, s, n, nil, "after Clear of "+name)
				checkBeyond(t, s, n, nil)
			}
			for _, i := range l {
				if s.Remove(i) {
					t.Errorf("P5.1: of %d, Remove(%d) behind Clear = true; want false", n, i)
				}
				if !s.Add(i) {
					t.Errorf("P5.1: of %d, Add(%d) behind Clear = false; want true", n, i)
				}
			}
			checkSet(t, s, n, l, "after Clear and Add of "+name)
			s.Clear()
			for i := range n {
				s.Add(i)
			}
			checkSet(t, s, n, upTo(n), "after Clear and Add of all")
		}
	}
}

func TestAllIsNewMemory(t *testing.T) {
	for _, n := range sizes {
		for _, l := range lists(n) {
			s := filled(t, n, l)
			one, two := s.All(), s.All()
			// Behind its end too there is nothing of s, nor of another answer.
			for i := range one[:cap(one)] {
				one[:cap(one)][i] = -77
			}
			checkSet(t, s, n, l, "after an answer of All was written over")
			if !slices.Equal(two, l) {
				t.Errorf("P2: of %d, two answers of All share memory", n)
			}
			s.Clear()
			if !slices.Equal(two, l) {
				t.Errorf("P2: of %d, an answer of All changed with the set", n)
			}
		}
	}
}

func TestCloneGoesOnApart(t *testing.T) {
	for _, n := range sizes {
		for name, l := range lists(n) {
			s := filled(t, n, l)
			c := s.Clone()
			if c == nil || c == s {
				t.Fatalf("P5.1: of %d, Clone is nil, or itself", n)
			}
			second := c.Clone()
			checkSet(t, c, n, l, "a clone of "+name)
			s.Clear()
			checkSet(t, c, n, l, "a clone, after what it was cloned from was cleared")
			for i := range n {
				s.Add(i)
			}
			checkSet(t, c, n, l, "a clone, after what it was cloned from was filled")
			for _, i := range l {
				c.Remove(i)
			}
			checkSet(t, s, n, upTo(n), "after its clone's numbers were taken out")
			checkSet(t, second, n, l, "a clone's clone, after both that it was cloned from were changed")
			// A clone has all that one of New's has.
			checkBeyond(t, c, n, nil)
			for i := range n {
				if !c.Add(i) {
					t.Errorf("P5.1: of a clone of %d, Add(%d) = false; want true", n, i)
				}
			}
			checkSet(t, c, n, upTo(n), "a clone, filled")
			checkSet(t, second, n, l, "a clone's clone, after the clone was filled")
		}
	}
}

// TestNotMade: nil, and such as New did not make, have no numbers; all that is called leaves it so.
func TestNotMade(t *testing.T) {
	numbers := []int{0, 1, -1, 63, 64, most - 1, most, greatest, least}
	for name, s := range map[string]*bitmap.Set{
		"nil":              nil,
		"an empty one":     {},
		"a new one":        new(bitmap.Set),
		"a clone of nil":   (*bitmap.Set)(nil).Clone(),
		"a clone of empty": new(bitmap.Set).Clone(),
	} {
		for range 2 {
			for _, i := range numbers {
				if s.Add(i) || s.Has(i) || s.Remove(i) {
					t.Errorf("P5.1: %s: Add, Has or Remove of %d = true; want false", name, i)
				}
				if got := s.Next(i); got != -1 {
					t.Errorf("P5.1: %s: Next(%d) = %d; want -1", name, i, got)
				}
			}
			if n := s.Count(); n != 0 {
				t.Errorf("P5.1: %s: Count() = %d; want 0", name, n)
			}
			if l := s.All(); len(l) != 0 {
				t.Errorf("P5.1: %s: All() = %v; want nothing", name, l)
			}
			if c := s.Clone(); c != nil {
				t.Errorf("P5.1: %s: Clone() = %v; want nil", name, c)
			}
			s.Clear()
		}
	}
}

// TestNoNumbers: New made it, and it has none: unlike nil it can be cloned.
func TestNoNumbers(t *testing.T) {
	for _, s := range []*bitmap.Set{bitmap.New(0), bitmap.New(-1), bitmap.New(least), bitmap.New(0).Clone()} {
		checkBeyond(t, s, 0, nil)
		s.Clear()
		checkBeyond(t, s, 0, nil)
		if s.Clone() == nil {
			t.Error("P5.1: Clone of a set of no numbers = nil")
		}
	}
}

// TestNothingElse: P3: two go on apart, and answer alike to what is alike, whatever the other one was told between; and as a plain list does.
func TestNothingElse(t *testing.T) {
	const n = 150
	one, two, other := bitmap.New(n), bitmap.New(n), bitmap.New(n)
	in := make([]bool, n)
	may := func(i int) bool { return i >= 0 && i < n }
	// A rule, not chance, for what is told; some of it is refused.
	for k := range 20000 {
		a, b := k*k%157-3, k*31%155-2
		other.Add(b)
		x := []bool{one.Add(a), one.Has(b), one.Remove(b), one.Has(a)}
		other.Remove(a)
		y := []bool{two.Add(a), two.Has(b), two.Remove(b), two.Has(a)}
		want := make([]bool, 4)
		if want[0] = may(a) && !in[a]; want[0] {
			in[a] = true
		}
		if want[1] = may(b) && in[b]; want[1] {
			want[2] = true
			in[b] = false
		}
		want[3] = may(a) && in[a]
		if k%5000 == 4999 {
			other.Clear()
			one.Clear()
			two.Clear()
			clear(in)
		}
		var left []int
		for i, is := range in {
			if is {
				left = append(left, i)
			}
		}
		if !slices.Equal(x, want) || !slices.Equal(y, want) || !slices.Equal(one.All(), left) || !slices.Equal(two.All(), left) || one.Next(b) != following(left, b) {
			t.Fatalf("P3, P5.1: at step %d, of %d and %d: %v, %v; want %v; in it are %v, %v; want %v", k, a, b, x, y, want, one.All(), two.All(), left)
		}
	}
}
