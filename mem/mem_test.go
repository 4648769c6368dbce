package mem_test

import (
	"math"
	"slices"
	"testing"

	"scutage/mem"
)

const (
	least    = math.MinInt64
	greatest = math.MaxInt64
	most     = 2048
)

// counted are n words that are all unlike, and unlike 0: some great, some below 0.
func counted(n int) []int64 {
	l := make([]int64, n)
	for i := range l {
		l[i] = int64(i+1) * 3000000007 * int64(1-2*(i%2))
	}
	return l
}

// made has the words of counted(n).
func made(t *testing.T, n int) *mem.Mem {
	t.Helper()
	m := mem.New(n)
	for a, w := range counted(n) {
		if !m.Store(a, w) {
			t.Fatalf("P4.1: of %d words, Store(%d, %d) = false", n, a, w)
		}
	}
	checkWords(t, m, counted(n), "after Store of each word")
	return m
}

// checkWords asks every call that tells words whether they are want.
func checkWords(t *testing.T, m *mem.Mem, want []int64, when string) {
	t.Helper()
	if got := m.Len(); got != len(want) {
		t.Fatalf("P4.1: Len() = %d; want %d: %s", got, len(want), when)
	}
	if got := m.All(); !slices.Equal(got, want) {
		t.Fatalf("P4.1: All() = %v; want %v: %s", got, want, when)
	}
	for a, w := range want {
		if got, ok := m.Load(a); got != w || !ok {
			t.Fatalf("P4.1: Load(%d) = %d, %v; want %d, true: %s", a, got, ok, w, when)
		}
	}
}

// beyond are addresses at which n words have none.
func beyond(n int) []int {
	return []int{-1, -2, n, n + 1, n - most - 1, most, 1 << 31, 1 << 32, 1<<32 + 1, -1 << 32, greatest - 1, greatest, least + 1, least}
}

func TestNew(t *testing.T) {
	for _, c := range []struct{ n, want int }{
		{1, 1},
		{2, 2},
		{5, 5},
		{31, 31},
		{32, 32},
		{512, 512},
		{1000, 1000},
		// the ends, and beyond
		{0, 0},
		{-1, 0},
		{-2, 0},
		{-most, 0},
		{2047, 2047},
		{2048, 2048},
		{2049, 2048},
		{4096, 2048},
		{1 << 31, 2048},
		{1 << 32, 2048},
		{1<<32 + 5, 2048},
		{-1 << 32, 0},
		{-1<<32 + 5, 0},
		{greatest, 2048},
		{greatest - 1, 2048},
		{least, 0},
		{least + 1, 0},
	} {
		m := mem.New(c.n)
		if m == nil {
			t.Fatalf("P4.1: New(%d) = nil", c.n)
		}
		if got := m.Len(); got != c.want {
			t.Fatalf("P4.1: New(%d).Len() = %d; want %d", c.n, got, c.want)
		}
		checkWords(t, m, make([]int64, c.want), "new")
		checkBeyond(t, m)
	}
}

// checkBeyond asks m for words that it has not: Load and Store answer false, and no word changes.
func checkBeyond(t *testing.T, m *mem.Mem) {
	t.Helper()
	before := m.All()
	for _, a := range beyond(m.Len()) {
		if got, ok := m.Load(a); got != 0 || ok {
			t.Errorf("P4.1: of %d words, Load(%d) = %d, %v; want 0, false", m.Len(), a, got, ok)
		}
		if m.Store(a, 77) {
			t.Errorf("P4.1: of %d words, Store(%d, 77) = true; want false", m.Len(), a)
		}
	}
	checkWords(t, m, before, "after Store beyond")
}

func TestLoadAndStore(t *testing.T) {
	for _, n := range []int{1, 2, 3, 32, 2047, most} {
		m := made(t, n)
		want := counted(n)
		for _, a := range []int{0, n / 2, n - 1} {
			for _, w := range []int64{0, 1, -1, 2, 1 << 32, 1<<41 + 1, greatest, least, 42} {
				if !m.Store(a, w) {
					t.Errorf("P4.1: of %d words, Store(%d, %d) = false; want true", n, a, w)
				}
				want[a] = w
				if got, ok := m.Load(a); got != w || !ok {
					t.Errorf("P4.1: of %d words, Load(%d) = %d, %v; want %d, true", n, a, got, ok, w)
				}
			}
		}
		// The words beside are as they were.
		checkWords(t, m, want, "after Store of some words")
		checkBeyond(t, m)
		checkWords(t, m, want, "after Store beyond")
	}
}

// there tells, word by word, so that no sum can be too great, whether the n words from a on are there, of size.
func there(size int, a int, n int) bool {
	if n < 0 || a < 0 || a > size {
		return false
	}
	for range n {
		if a == size {
			return false
		}
		a++
	}
	return true
}

// checkFill holds a call against the words set one by one.
func checkFill(t *testing.T, size int, a int, n int) {
	t.Helper()
	const w = -99
	m := made(t, size)
	want := counted(size)
	ok := there(size, a, n)
	if ok {
		for i := range n {
			want[a+i] = w
		}
	}
	if got := m.Fill(a, n, w); got != ok {
		t.Fatalf("P4.1: of %d words, Fill(%d, %d, %d) = %v; want %v", size, a, n, w, got, ok)
	}
	checkWords(t, m, want, "after Fill")
}

// checkMove holds a call against the words taken from those that were ahead.
func checkMove(t *testing.T, size int, to int, from int, n int) {
	t.Helper()
	m := made(t, size)
	was, want := counted(size), counted(size)
	ok := there(size, to, n) && there(size, from, n)
	if ok {
		for i := range n {
			want[to+i] = was[from+i]
		}
	}
	if got := m.Move(to, from, n); got != ok {
		t.Fatalf("P4.1: of %d words, Move(%d, %d, %d) = %v; want %v", size, to, from, n, got, ok)
	}
	checkWords(t, m, want, "after Move")
}

// TestAllParts: of few words each part that is there, and all that are not, up to two steps beyond.
func TestAllParts(t *testing.T) {
	for _, size := range []int{0, 1, 2, 5} {
		for n := -2; n <= size+2; n++ {
			for a := -2; a <= size+2; a++ {
				checkFill(t, size, a, n)
				for from := -2; from <= size+2; from++ {
					checkMove(t, size, a, from, n)
				}
			}
		}
	}
}

// part is n words from a on, and whether they are there.
type part struct {
	a, n int
	ok   bool
}

// parts are from each end on, of size words: of no word, of one, of all, and beyond.
func parts(size int) []part {
	return []part{
		// no word: at Len too, but not one step beyond it
		{0, 0, true},
		{1, 0, true},
		{size - 1, 0, true},
		{size, 0, true},
		{size + 1, 0, false},
		{-1, 0, false},
		{greatest, 0, false},
		{least, 0, false},
		// one
		{0, 1, true},
		{size - 1, 1, true},
		{size, 1, false},
		{size + 1, 1, false},
		{-1, 1, false},
		{greatest, 1, false},
		{least, 1, false},
		// all, one less, one too many
		{0, size, true},
		{0, size - 1, true},
		{1, size - 1, true},
		{0, size + 1, false},
		{1, size, false},
		{-1, size, false},
		{-1, size + 1, false},
		{size, size, false},
		{-size, size, false},
		// fewer than none
		{0, -1, false},
		{1, -1, false},
		{size, -1, false},
		{size + 1, -1, false},
		{size, -size, false},
		{-1, -1, false},
		{0, least, false},
		{1, least, false},
		{size, least, false},
		{-1, least, false},
		{least, least, false},
		{greatest, least, false},
		{greatest, -greatest, false},
		{least, -1, false},
		// as far out as can be
		{0, greatest, false},
		{-1, greatest, false},
		{-greatest, greatest, false},
		{least, greatest, false},
		{0, 1 << 32, false},
		{1 << 32, 0, false},
		{1<<32 + 1, 1, false},
		{0, 1<<32 + 1, false},
		// a sum that is too great for 64 bits, and what is left of it when it wraps round
		{1, greatest, false},
		{2, greatest, false},
		{size, greatest, false},
		{greatest, 1, false},
		{greatest, 2, false},
		{greatest, size, false},
		{greatest, greatest, false},
		{greatest - 1, size, false},
		{greatest - size + 1, size, false},
		{size, greatest - size + 1, false},
	}
}

func TestFill(t *testing.T) {
	for _, size := range []int{5, 32, most} {
		for _, p := range parts(size) {
			if there(size, p.a, p.n) != p.ok {
				t.Fatalf("of %d words, the test tells of the %d from %d on that %v", size, p.n, p.a, p.ok)
			}
			checkFill(t, size, p.a, p.n)
		}
	}
}

// TestMoveParts: each of the parts to the start, from the start, and to where it is.
func TestMoveParts(t *testing.T) {
	for _, size := range []int{5, 32, most} {
		for _, p := range parts(size) {
			was := counted(size)
			for _, c := range []struct{ to, from int }{{0, p.a}, {p.a, 0}, {p.a, p.a}} {
				m := made(t, size)
				want := slices.Clone(was)
				if p.ok {
					copy(want[c.to:], was[c.from:c.from+p.n])
				}
				if got := m.Move(c.to, c.from, p.n); got != p.ok {
					t.Errorf("P4.1: of %d words, Move(%d, %d, %d) = %v; want %v", size, c.to, c.from, p.n, got, p.ok)
				}
				checkWords(t, m, want, "after Move")
			}
		}
	}
}

// TestMoveMeets: up and down, where the two parts meet in some words, in all, in none; each tells what comes out, word by word.
func TestMoveMeets(t *testing.T) {
	for _, c := range []struct {
		to, from, n int
		want        []int64
	}{
		// some, up
		{1, 0, 3, []int64{10, 10, 11, 12, 14, 15, 16, 17}},
		{1, 0, 7, []int64{10, 10, 11, 12, 13, 14, 15, 16}},
		{4, 2, 4, []int64{10, 11, 12, 13, 12, 13, 14, 15}},
		{3, 0, 5, []int64{10, 11, 12, 10, 11, 12, 13, 14}},
		// some, down
		{0, 1, 3, []int64{11, 12, 13, 13, 14, 15, 16, 17}},
		{0, 1, 7, []int64{11, 12, 13, 14, 15, 16, 17, 17}},
		{2, 4, 4, []int64{10, 11, 14, 15, 16, 17, 16, 17}},
		{0, 3, 5, []int64{13, 14, 15, 16, 17, 15, 16, 17}},
		// all
		{2, 2, 3, []int64{10, 11, 12, 13, 14, 15, 16, 17}},
		{0, 0, 8, []int64{10, 11, 12, 13, 14, 15, 16, 17}},
		// none: side by side, and further
		{3, 0, 3, []int64{10, 11, 12, 10, 11, 12, 16, 17}},
		{0, 3, 3, []int64{13, 14, 15, 13, 14, 15, 16, 17}},
		{6, 0, 2, []int64{10, 11, 12, 13, 14, 15, 10, 11}},
		{0, 6, 2, []int64{16, 17, 12, 13, 14, 15, 16, 17}},
		{7, 0, 1, []int64{10, 11, 12, 13, 14, 15, 16, 10}},
		{0, 7, 1, []int64{17, 11, 12, 13, 14, 15, 16, 17}},
		// no word
		{8, 0, 0, []int64{10, 11, 12, 13, 14, 15, 16, 17}},
		{0, 8, 0, []int64{10, 11, 12, 13, 14, 15, 16, 17}},
		{8, 8, 0, []int64{10, 11, 12, 13, 14, 15, 16, 17}},
	} {
		m := mem.New(8)
		for a := range 8 {
			m.Store(a, int64(10+a))
		}
		if !m.Move(c.to, c.from, c.n) {
			t.Errorf("P4.1: Move(%d, %d, %d) = false; want true", c.to, c.from, c.n)
		}
		checkWords(t, m, c.want, "after Move")
	}
}

// TestMoveOfMany: of as many words as there may be, by little and by much, up and down.
func TestMoveOfMany(t *testing.T) {
	for _, by := range []int{1, 2, 31, 32, 33, 1023, 1024, 1025, 2046, 2047} {
		checkMove(t, most, by, 0, most-by)
		checkMove(t, most, 0, by, most-by)
		checkMove(t, most, by, 0, most-by+1)
		checkMove(t, most, 0, by, most-by+1)
	}
}

// TestOneStepTooFar: one of the two parts alone is not there, whichever it is: nothing changes, not even the words that are there.
func TestOneStepTooFar(t *testing.T) {
	for _, c := range []struct{ to, from, n int }{
		{6, 0, 3},
		{0, 6, 3},
		{8, 0, 1},
		{0, 8, 1},
		{-1, 0, 3},
		{0, -1, 3},
		{9, 0, 0},
		{0, 9, 0},
		{-1, 0, 0},
		{0, -1, 0},
		{0, 1, 8},
		{1, 0, 8},
	} {
		m := made(t, 8)
		if m.Move(c.to, c.from, c.n) {
			t.Errorf("P4.1: Move(%d, %d, %d) = true; want false", c.to, c.from, c.n)
		}
		checkWords(t, m, counted(8), "after Move that was false")
	}
}

func TestAllIsNewMemory(t *testing.T) {
	for _, n := range []int{1, 5, 33, most} {
		m := made(t, n)
		one, two := m.All(), m.All()
		// Behind its end too there is nothing of m, nor of another answer.
		for _, l := range [][]int64{one, one[:cap(one)]} {
			for i := range l {
				l[i] = 77
			}
		}
		checkWords(t, m, counted(n), "after an answer of All was written over")
		if !slices.Equal(two, counted(n)) {
			t.Errorf("P2: of %d words, two answers of All share memory", n)
		}
		m.Fill(0, n, 55)
		if !slices.Equal(two, counted(n)) {
			t.Errorf("P2: of %d words, an answer of All changed with them", n)
		}
	}
	if l := mem.New(0).All(); len(l) != 0 {
		t.Errorf("P4.1: of no words, All() = %v", l)
	}
}

func TestCloneGoesOnApart(t *testing.T) {
	for _, n := range []int{0, 1, 5, most} {
		m := made(t, n)
		c := m.Clone()
		if c == nil || c == m {
			t.Fatalf("P4.1: of %d words, Clone is nil, or itself", n)
		}
		second := c.Clone()
		checkWords(t, c, counted(n), "cloned")
		m.Fill(0, n, 1)
		checkWords(t, c, counted(n), "after what it was cloned from was filled")
		c.Fill(0, n, 2)
		checkWords(t, m, slices.Repeat([]int64{1}, n), "after its clone was filled")
		checkWords(t, second, counted(n), "after both that it was cloned from were filled")
		// A clone has all that one of New's has.
		checkBeyond(t, c)
		if !c.Fill(n, 0, 3) || !c.Move(n, n, 0) || c.Fill(n+1, 0, 3) || c.Move(n+1, 0, 0) {
			t.Errorf("P4.1: of a clone of %d words, no word at Len is there, one step beyond it none", n)
		}
	}
	m := made(t, 5)
	c := m.Clone()
	c.Store(0, 7)
	m.Move(1, 2, 3)
	c.Move(3, 0, 2)
	l := counted(5)
	checkWords(t, m, []int64{l[0], l[2], l[3], l[4], l[4]}, "after Move, beside its clone")
	checkWords(t, c, []int64{7, l[1], l[2], 7, l[1]}, "after Move, beside what it was cloned from")
}

// TestNotMade: nil, and such as New did not make, have no word, not even none at 0; all that is called leaves it so.
func TestNotMade(t *testing.T) {
	numbers := []int{0, 1, -1, 5, most, greatest, least}
	for name, m := range map[string]*mem.Mem{
		"nil":              nil,
		"an empty one":     {},
		"a clone of nil":   (*mem.Mem)(nil).Clone(),
		"a clone of empty": new(mem.Mem).Clone(),
	} {
		for range 2 {
			if n := m.Len(); n != 0 {
				t.Errorf("P4.1: %s: Len() = %d; want 0", name, n)
			}
			for _, a := range numbers {
				if w, ok := m.Load(a); w != 0 || ok {
					t.Errorf("P4.1: %s: Load(%d) = %d, %v; want 0, false", name, a, w, ok)
				}
				if m.Store(a, 7) {
					t.Errorf("P4.1: %s: Store(%d, 7) = true; want false", name, a)
				}
				for _, n := range numbers {
					if m.Fill(a, n, 7) {
						t.Errorf("P4.1: %s: Fill(%d, %d, 7) = true; want false", name, a, n)
					}
					if m.Move(a, 0, n) || m.Move(0, a, n) || m.Move(a, a, n) {
						t.Errorf("P4.1: %s: Move of %d words at %d = true; want false", name, n, a)
					}
				}
			}
			if l := m.All(); len(l) != 0 {
				t.Errorf("P4.1: %s: All() = %v; want nothing", name, l)
			}
			if c := m.Clone(); c != nil {
				t.Errorf("P4.1: %s: Clone() = %v; want nil", name, c)
			}
		}
	}
}

// TestNoWords: New made it, and it has none: no word at 0 is there, as at every Len.
func TestNoWords(t *testing.T) {
	for _, m := range []*mem.Mem{mem.New(0), mem.New(-1), mem.New(least), mem.New(0).Clone()} {
		if !m.Fill(0, 0, 7) || !m.Move(0, 0, 0) {
			t.Error("P4.1: of no words, no word at 0 is not there")
		}
		for _, p := range []part{{1, 0, false}, {-1, 0, false}, {0, 1, false}, {0, -1, false}, {greatest, 0, false}, {greatest, 1, false}} {
			if m.Fill(p.a, p.n, 7) != p.ok || m.Move(p.a, 0, p.n) != p.ok || m.Move(0, p.a, p.n) != p.ok {
				t.Errorf("P4.1: of no words, the %d from %d on are there", p.n, p.a)
			}
		}
		checkWords(t, m, nil, "of no words")
	}
}

// TestNothingElse: P3: two go on apart, and answer alike to what is alike, whatever the other one was told between.
func TestNothingElse(t *testing.T) {
	one, two := mem.New(40), mem.New(40)
	other := made(t, 40)
	// A rule, not chance, for what is told; some of it is refused.
	for k := range 5000 {
		a, b, n := k*7%44-2, k*11%44-2, k*5%13-1
		w := int64(k) * 6700417
		other.Fill(b, n, w)
		x := []bool{one.Store(a, w), one.Fill(b, n, -w), one.Move(a, b, n)}
		other.Move(b, a, n)
		y := []bool{two.Store(a, w), two.Fill(b, n, -w), two.Move(a, b, n)}
		if !slices.Equal(x, y) || !slices.Equal(one.All(), two.All()) {
			t.Fatalf("P3: at step %d, %v and %v; %v and %v", k, x, y, one.All(), two.All())
		}
	}
}
