package chain_test

import (
	"math"
	"slices"
	"testing"

	"scutage/chain"
	"scutage/mem"
)

const (
	least     = math.MinInt64
	greatest  = math.MaxInt64
	pageWords = 32
	pages     = 64
	most      = 2048
	smalls    = 4
)

// none is what each call answers beside false.
var none = chain.Chain{}

// sizes are the words of a cell of each small class, and counts the cells of a page, as the chapters ahead write them out; of no class at 0.
var (
	sizes  = []int{0, 2, 4, 8, 16}
	counts = []int{0, 16, 8, 4, 2}
)

// far are numbers that no page, class, cell or number of cells has: such as are one when cut short, times a cell's words or turned about, and as far out as can be.
var far = []int{-2, -3, -5, -9, -17, -31, -32, -33, -64, -65, 65, 127, 128, 256, 257, 2048, 1 << 16,
	1<<31 - 1, 1 << 31, 1 << 32, 1<<32 + 1, 1<<32 + 3, -1 << 31, -1 << 32, -1<<32 + 1, -1<<32 + 3,
	1 << 58, 1<<58 + 1, 1 << 59, 1<<59 + 1, 1 << 60, 1<<60 + 1, 1 << 61, 1<<61 + 1, 1 << 62, 1<<62 + 1, -1 << 58, -1 << 59, -1 << 60, -1 << 61, -1 << 62,
	greatest, greatest - 1, greatest - 31, greatest - 32, least, least + 1, least + 31, least + 32}

// near are the numbers from lo to hi.
func near(lo int, hi int) []int {
	var l []int
	for n := lo; n <= hi; n++ {
		l = append(l, n)
	}
	return l
}

// between are the numbers from lo to hi, and the far ones.
func between(lo int, hi int) []int {
	return append(near(lo, hi), far...)
}

// unlike are n words that are all unlike, above 0 and so great that they tell nothing.
func unlike(n int) []int64 {
	l := make([]int64, n)
	for a := range l {
		l[a] = int64(a+1) * 3000000007
	}
	return l
}

// alike are n words that are all w.
func alike(n int, w int64) []int64 {
	return slices.Repeat([]int64{w}, n)
}

// having has these words.
func having(t *testing.T, words []int64) *mem.Mem {
	t.Helper()
	m := mem.New(len(words))
	for a, w := range words {
		if !m.Store(a, w) {
			t.Fatalf("of %d words, Store(%d, %d) = false", len(words), a, w)
		}
	}
	return m
}

// begins is the address of cell i's first word.
func begins(p int, k int, i int) int {
	return p*pageWords + i*sizes[k]
}

// lay writes a chain of these free cells by hand.
func lay(words []int64, p int, k int, free []int) chain.Chain {
	first := counts[k]
	for _, i := range slices.Backward(free) {
		words[begins(p, k, i)] = int64(-1 - first)
		first = i
	}
	return chain.Chain{First: first, N: len(free)}
}

// orders are lists of a page's free cells: of few cells each list that can be, of many some, of each length.
func orders(k int) [][]int {
	n := counts[k]
	if n <= 4 {
		return lists(n)
	}
	l := [][]int{nil}
	for _, by := range []int{1, 3, 5, n - 1} {
		for first := 0; first < n; first += 3 {
			for length := 1; length <= n; length++ {
				var free []int
				for j := range length {
					free = append(free, (first+j*by)%n)
				}
				l = append(l, free)
			}
		}
	}
	return l
}

// lists are all lists of numbers from 0 to n - 1 in which none comes twice.
func lists(n int) [][]int {
	l := [][]int{nil}
	for j := 0; j < len(l); j++ {
		for i := range n {
			if !slices.Contains(l[j], i) {
				l = append(l, append(slices.Clone(l[j]), i))
			}
		}
	}
	return l
}

func checkWords(t *testing.T, m *mem.Mem, want []int64, when string) {
	t.Helper()
	got := m.All()
	if len(got) != len(want) {
		t.Fatalf("%s: %d words; want %d", when, len(got), len(want))
	}
	for a, w := range want {
		if got[a] != w {
			t.Fatalf("%s: word %d is %d; want %d", when, a, got[a], w)
		}
	}
}

func checkTake(t *testing.T, m *mem.Mem, p int, k int, c chain.Chain, want int, left chain.Chain, ok bool) {
	t.Helper()
	was := m.All()
	i, l, is := chain.Take(m, p, k, c)
	if i != want || l != left || is != ok {
		t.Fatalf("P8.1: of %d words, Take(%d, %d, %v) = %d, %v, %t; want %d, %v, %t", m.Len(), p, k, c, i, l, is, want, left, ok)
	}
	checkWords(t, m, was, "P8.1: Take writes nothing")
}

// checkGive wants w at cell i's first word behind it, if the call is granted, and each other word as it was.
func checkGive(t *testing.T, m *mem.Mem, p int, k int, c chain.Chain, i int, want chain.Chain, w int64, ok bool) {
	t.Helper()
	words := m.All()
	if ok {
		words[begins(p, k, i)] = w
	}
	got, is := chain.Give(m, p, k, c, i)
	if got != want || is != ok {
		t.Fatalf("P8.1: of %d words, Give(%d, %d, %v, %d) = %v, %t; want %v, %t", m.Len(), p, k, c, i, got, is, want, ok)
	}
	checkWords(t, m, words, "P8.1: Give writes one word, or none")
}

func checkAll(t *testing.T, m *mem.Mem, p int, k int, c chain.Chain, want []int, ok bool) {
	t.Helper()
	was := m.All()
	got, is := chain.All(m, p, k, c)
	if !slices.Equal(got, want) || is != ok {
		t.Fatalf("P8.1: of %d words, All(%d, %d, %v) = %v, %t; want %v, %t", m.Len(), p, k, c, got, is, want, ok)
	}
	checkWords(t, m, was, "P8.1: All writes nothing")
}

// checkNone: all four answer that there is no such page, class or word, whatever the chain.
func checkNone(t *testing.T, m *mem.Mem, p int, k int) {
	t.Helper()
	was := m.All()
	if c, ok := chain.Build(m, p, k); c != none || ok {
		t.Fatalf("P8.1: of %d words, Build(%d, %d) = %v, %t; want zero, false", m.Len(), p, k, c, ok)
	}
	for _, c := range []chain.Chain{{0, 0}, {0, 1}, {0, 2}, {1, 0}, {1, 1}, {1, 2}, {2, 0}, {2, 1}, {4, 0}, {8, 0}, {16, 0}, {0, 4}, {0, 8}, {0, 16}, {15, 1}, {0, -1}, {-1, 0}, {32, 0}} {
		if i, l, ok := chain.Take(m, p, k, c); i != 0 || l != none || ok {
			t.Fatalf("P8.1: of %d words, Take(%d, %d, %v) = %d, %v, %t; want zero, false", m.Len(), p, k, c, i, l, ok)
		}
		for _, i := range []int{0, 1, 15, -1, 32} {
			if l, ok := chain.Give(m, p, k, c, i); l != none || ok {
				t.Fatalf("P8.1: of %d words, Give(%d, %d, %v, %d) = %v, %t; want zero, false", m.Len(), p, k, c, i, l, ok)
			}
		}
		if l, ok := chain.All(m, p, k, c); len(l) != 0 || ok {
			t.Fatalf("P8.1: of %d words, All(%d, %d, %v) = %v, %t; want nothing, false", m.Len(), p, k, c, l, ok)
		}
	}
	checkWords(t, m, was, "P8.1: nothing is written where there is no such page, class or word")
}

// checkThere: all four are granted; all words are -1 minus how many cells the page has ahead.
func checkThere(t *testing.T, m *mem.Mem, p int, k int) {
	t.Helper()
	n := counts[k]
	for i := range n {
		checkTake(t, m, p, k, chain.Chain{First: i, N: 1}, i, chain.Chain{First: n}, true)
		checkAll(t, m, p, k, chain.Chain{First: i, N: 1}, []int{i}, true)
		checkGive(t, m, p, k, chain.Chain{First: n}, i, chain.Chain{First: i, N: 1}, int64(-1-n), true)
	}
	checkAll(t, m, p, k, chain.Chain{First: n}, nil, true)
	checkBuild(t, m, p, k)
}

// checkBuild wants each word of the page as the chapter has it, and each other one as it was.
func checkBuild(t *testing.T, m *mem.Mem, p int, k int) chain.Chain {
	t.Helper()
	words := m.All()
	for o := range pageWords {
		words[p*pageWords+o] = 0
	}
	for i := range counts[k] {
		words[begins(p, k, i)] = int64(-2 - i)
	}
	c, ok := chain.Build(m, p, k)
	if want := (chain.Chain{First: 0, N: counts[k]}); c != want || !ok {
		t.Fatalf("P8.1: of %d words, Build(%d, %d) = %v, %t; want %v, true", m.Len(), p, k, c, ok, want)
	}
	checkWords(t, m, words, "P8.1: Build")
	return c
}

// checkWhole takes c down, cell by cell, and holds it against the plain list of what is free.
func checkWhole(t *testing.T, m *mem.Mem, p int, k int, c chain.Chain, free []int) {
	t.Helper()
	checkAll(t, m, p, k, c, free, true)
	for len(free) > 0 {
		i := free[0]
		free = free[1:]
		left := chain.Chain{First: counts[k], N: len(free)}
		if len(free) > 0 {
			left.First = free[0]
		}
		checkTake(t, m, p, k, c, i, left, true)
		checkAll(t, m, p, k, left, free, true)
		c = left
	}
	checkTake(t, m, p, k, c, 0, none, false)
}

// TestWrittenOut: pages of each class, word by word, worked out by hand from the chapter.
func TestWrittenOut(t *testing.T) {
	for _, x := range []struct {
		k    int
		want []int64
	}{
		{1, []int64{-2, 0, -3, 0, -4, 0, -5, 0, -6, 0, -7, 0, -8, 0, -9, 0, -10, 0, -11, 0, -12, 0, -13, 0, -14, 0, -15, 0, -16, 0, -17, 0}},
		{2, []int64{-2, 0, 0, 0, -3, 0, 0, 0, -4, 0, 0, 0, -5, 0, 0, 0, -6, 0, 0, 0, -7, 0, 0, 0, -8, 0, 0, 0, -9, 0, 0, 0}},
		{3, []int64{-2, 0, 0, 0, 0, 0, 0, 0, -3, 0, 0, 0, 0, 0, 0, 0, -4, 0, 0, 0, 0, 0, 0, 0, -5, 0, 0, 0, 0, 0, 0, 0}},
		{4, []int64{-2, 0, 0, 0, 0, 0, 0, 0, 0, 0, 0, 0, 0, 0, 0, 0, -3, 0, 0, 0, 0, 0, 0, 0, 0, 0, 0, 0, 0, 0, 0, 0}},
	} {
		m := mem.New(pageWords)
		c, ok := chain.Build(m, 0, x.k)
		if c.First != 0 || c.N != len(slices.DeleteFunc(slices.Clone(x.want), func(w int64) bool { return w == 0 })) || !ok {
			t.Errorf("P8.1: Build of class %d: %v, %t", x.k, c, ok)
		}
		checkWords(t, m, x.want, "P8.1: Build")
	}
}

// TestExample: the chapter's.
func TestExample(t *testing.T) {
	m := mem.New(pageWords)
	c, ok := chain.Build(m, 0, 4)
	one, _ := m.Load(0)
	two, _ := m.Load(16)
	if !ok || c != (chain.Chain{First: 0, N: 2}) || one != -2 || two != -3 {
		t.Errorf("P8.1: Build: %v, %t; first words %d and %d", c, ok, one, two)
	}
}

// TestBuild: each page, over what tells nothing, over what tells a cell everywhere, and over another class's page.
func TestBuild(t *testing.T) {
	for p := range pages {
		for k := 1; k <= smalls; k++ {
			for _, words := range [][]int64{unlike(most), alike(most, -1), alike(most, least), alike(most, greatest)} {
				m := having(t, words)
				c := checkBuild(t, m, p, k)
				checkAll(t, m, p, k, c, near(0, counts[k]-1), true)
			}
			m := having(t, unlike(most))
			checkBuild(t, m, p, smalls+1-k)
			checkBuild(t, m, p, k)
			checkBuild(t, m, p, k)
		}
	}
}

// TestBuiltTakenDown: cell by cell, on each page.
func TestBuiltTakenDown(t *testing.T) {
	for p := range pages {
		for k := 1; k <= smalls; k++ {
			m := having(t, unlike(most))
			c := checkBuild(t, m, p, k)
			checkWhole(t, m, p, k, c, near(0, counts[k]-1))
		}
	}
}

// TestByHand: chains whose words no call wrote, taken down, and given each cell that is not free.
func TestByHand(t *testing.T) {
	for k := 1; k <= smalls; k++ {
		for j, free := range orders(k) {
			p := j % 3
			words := unlike(3 * pageWords)
			c := lay(words, p, k, free)
			checkWhole(t, having(t, words), p, k, c, free)
			for i := range counts[k] {
				if slices.Contains(free, i) {
					continue
				}
				m := having(t, words)
				more := chain.Chain{First: i, N: len(free) + 1}
				checkGive(t, m, p, k, c, i, more, int64(-1-c.First), true)
				checkWhole(t, m, p, k, more, append([]int{i}, free...))
			}
		}
	}
}

// TestTake: each First with each N and each word, held against what the chapter says of the three.
func TestTake(t *testing.T) {
	for k := 1; k <= smalls; k++ {
		n := counts[k]
		for _, p := range []int{0, 1, 2} {
			for _, first := range between(-1, 2*n) {
				is := first >= 0 && first < n
				// Whatever else might be read instead would do as a cell's first word.
				words := alike(3*pageWords, -1)
				for _, tells := range between(-1, n+2) {
					if is {
						words[begins(p, k, first)] = int64(-1 - tells)
					}
					m := having(t, words)
					for _, count := range []int{least, least + 1, -n, -1, 0, 1, 2, n, n + 1, 1 << 32, greatest} {
						if c := (chain.Chain{First: first, N: count}); is && count >= 1 && tells >= 0 && tells <= n {
							checkTake(t, m, p, k, c, first, chain.Chain{First: tells, N: count - 1}, true)
						} else {
							checkTake(t, m, p, k, c, 0, none, false)
						}
					}
					if !is {
						break
					}
				}
			}
		}
	}
}

// TestTakeWrittenOut: the words at the edges, one by one, of a page of four cells.
func TestTakeWrittenOut(t *testing.T) {
	for _, x := range []struct {
		w    int64
		next int
		ok   bool
	}{
		{-1, 0, true},
		{-2, 1, true},
		{-4, 3, true},
		{-5, 4, true},
		{-6, 0, false},
		{-7, 0, false},
		{0, 0, false},
		{1, 0, false},
		{2, 0, false},
		{4, 0, false},
		{1<<32 - 1, 0, false},
		{1<<32 - 2, 0, false},
		{-1 << 32, 0, false},
		{-1<<32 - 1, 0, false},
		{-1<<32 - 2, 0, false},
		{-1<<62 - 1, 0, false},
		{greatest, 0, false},
		{greatest - 1, 0, false},
		{least, 0, false},
		{least + 1, 0, false},
	} {
		words := unlike(2 * pageWords)
		words[pageWords+8] = x.w
		m := having(t, words)
		i, left := 1, chain.Chain{First: x.next, N: 2}
		if !x.ok {
			i, left = 0, none
		}
		checkTake(t, m, 1, 3, chain.Chain{First: 1, N: 3}, i, left, x.ok)
	}
}

// TestGive: each cell with each N and each First, over words that tell nothing.
func TestGive(t *testing.T) {
	for k := 1; k <= smalls; k++ {
		n := counts[k]
		few := append(near(-2, n+1), least, greatest, 1<<32, 1<<59, 1<<60, 1<<61, 1<<62, -1<<32)
		m := having(t, unlike(3*pageWords))
		for _, i := range few {
			for _, count := range few {
				for _, first := range few {
					c := chain.Chain{First: first, N: count}
					if i >= 0 && i < n && count >= 0 && count < n && first >= 0 && first <= n {
						checkGive(t, m, 1, k, c, i, chain.Chain{First: i, N: count + 1}, int64(-1-first), true)
						m.Store(begins(1, k, i), 77)
					} else {
						checkGive(t, m, 1, k, c, i, none, 0, false)
					}
				}
			}
		}
	}
}

// TestGiveFar: one of the three numbers far out, the two others as they may be; on the first page, the last one and one between.
func TestGiveFar(t *testing.T) {
	for k := 1; k <= smalls; k++ {
		n := counts[k]
		for _, p := range []int{0, 31, 63} {
			m := having(t, unlike(most))
			for _, x := range between(n+1, n+3) {
				checkGive(t, m, p, k, chain.Chain{First: n}, x, none, 0, false)
				checkGive(t, m, p, k, chain.Chain{First: n, N: x}, 0, none, 0, false)
				checkGive(t, m, p, k, chain.Chain{First: x}, 0, none, 0, false)
			}
			checkGive(t, m, p, k, chain.Chain{First: n}, n, none, 0, false)
			checkGive(t, m, p, k, chain.Chain{First: n}, -1, none, 0, false)
			for i := range n {
				checkGive(t, m, p, k, chain.Chain{First: n, N: n}, i, none, 0, false)
				checkGive(t, m, p, k, chain.Chain{First: n, N: -1}, i, none, 0, false)
				checkGive(t, m, p, k, chain.Chain{First: -1}, i, none, 0, false)
				checkGive(t, m, p, k, chain.Chain{First: n, N: n - 1}, i, chain.Chain{First: i, N: n}, int64(-1-n), true)
			}
		}
	}
}

// choices calls f with each list of size words out of some.
func choices(some []int64, size int, f func([]int64)) {
	l := make([]int64, size)
	var from func(int)
	from = func(j int) {
		if j == size {
			f(l)
			return
		}
		for _, w := range some {
			l[j] = w
			from(j + 1)
		}
	}
	from(0)
}

// stands tells whether the first words tell just this list, from the first of it on.
func stands(first []int64, n int, free []int) bool {
	for j, i := range free {
		next := n
		if j+1 < len(free) {
			next = free[j+1]
		}
		if first[i] != int64(-1-next) {
			return false
		}
	}
	return true
}

// TestAllOfFew: of a page of two cells, and of four: each choice of first words with each First and N; whole is what one of the lists tells.
func TestAllOfFew(t *testing.T) {
	for _, x := range []struct {
		k    int
		some []int64
	}{
		{4, []int64{0, 1, -1, -2, -3, -4, -5, -17, greatest, least, -1 - 1<<32, -2 - 1<<32, 1<<32 - 1}},
		{3, []int64{0, -1, -2, -3, -4, -5, -6}},
	} {
		k, n := x.k, counts[x.k]
		all := lists(n)
		m := having(t, unlike(2*pageWords))
		choices(x.some, n, func(first []int64) {
			for i, w := range first {
				m.Store(begins(1, k, i), w)
			}
			whole := map[chain.Chain][]int{}
			for _, free := range all {
				if stands(first, n, free) {
					c := chain.Chain{First: n, N: len(free)}
					if len(free) > 0 {
						c.First = free[0]
					}
					whole[c] = free
				}
			}
			for f := -1; f <= n+1; f++ {
				for _, count := range append(near(-1, n+2), least, greatest) {
					c := chain.Chain{First: f, N: count}
					free, ok := whole[c]
					if got, is := chain.All(m, 1, k, c); !slices.Equal(got, free) || is != ok {
						t.Fatalf("P8.1: first words %v: All(%v) = %v, %t; want %v, %t", first, c, got, is, free, ok)
					}
				}
			}
		})
	}
}

// notWhole: with no N but one (none, if that is 0) is what begins at first whole; N = 0 is left out.
func notWhole(t *testing.T, words []int64, p int, k int, first int, but int) {
	t.Helper()
	m := having(t, words)
	for _, count := range between(1, counts[k]+3) {
		if count != but && count != 0 {
			checkAll(t, m, p, k, chain.Chain{First: first, N: count}, nil, false)
		}
	}
}

// TestAllBroken: whole chains of each class with one word, one First or one N that is not as told.
func TestAllBroken(t *testing.T) {
	for k := 1; k <= smalls; k++ {
		n := counts[k]
		for j, free := range orders(k) {
			// Of the many orders of many cells every few.
			if n > 4 && j%5 != 0 {
				continue
			}
			words := unlike(2 * pageWords)
			c := lay(words, 1, k, free)
			if c.N == 0 {
				continue
			}
			notWhole(t, words, 1, k, c.First, c.N)
			breakEach(t, words, k, free)
		}
	}
}

// breakEach has each word on the way tell something else.
func breakEach(t *testing.T, words []int64, k int, free []int) {
	t.Helper()
	n := counts[k]
	for j, i := range free {
		a := begins(1, k, i)
		was := words[a]
		// What tells neither a cell nor how many.
		for _, tells := range []int{-1, -2, n + 1, n + 2, 1 << 32, 1<<32 + n, greatest, least} {
			words[a] = int64(-1 - tells)
			notWhole(t, words, 1, k, free[0], 0)
		}
		// A cell that came already, the first one and itself too.
		for _, back := range free[:j+1] {
			words[a] = int64(-1 - back)
			notWhole(t, words, 1, k, free[0], 0)
		}
		// How many there are: whole up to here, and no further.
		words[a] = int64(-1 - n)
		notWhole(t, words, 1, k, free[0], j+1)
		checkAll(t, having(t, words), 1, k, chain.Chain{First: free[0], N: j + 1}, free[:j+1], true)
		words[a] = was
	}
	// The last one tells another cell, which is not free.
	for i := range n {
		if !slices.Contains(free, i) {
			a := begins(1, k, free[len(free)-1])
			words[a] = int64(-1 - i)
			notWhole(t, words, 1, k, free[0], 0)
			words[a] = int64(-1 - n)
		}
	}
}

// TestAllOfNone: N = 0 with each First, N below 0 with each First, over a page that is whole else.
func TestAllOfNone(t *testing.T) {
	for k := 1; k <= smalls; k++ {
		n := counts[k]
		words := unlike(2 * pageWords)
		m := having(t, words)
		c := checkBuild(t, m, 1, k)
		for _, first := range between(-1, n+2) {
			checkAll(t, m, 1, k, chain.Chain{First: first}, nil, first == n)
			for _, count := range []int{-1, -2, -n, -1 << 32, least + 1, least} {
				checkAll(t, m, 1, k, chain.Chain{First: first, N: count}, nil, false)
			}
			for _, count := range []int{1, n, n + 1, greatest} {
				if first < 0 || first >= n {
					checkAll(t, m, 1, k, chain.Chain{First: first, N: count}, nil, false)
				}
			}
		}
		notWhole(t, m.All(), 1, k, c.First, c.N)
	}
}

// TestNoPage: of each class, over words that would do wherever they were read.
func TestNoPage(t *testing.T) {
	for k := 1; k <= smalls; k++ {
		m := having(t, alike(most, int64(-1-counts[k])))
		for _, p := range append([]int{-1, pages, pages + 1, 2 * pages}, far...) {
			checkNone(t, m, p, k)
		}
		checkThere(t, m, 0, k)
		checkThere(t, m, pages-1, k)
	}
}

// TestNoClass: on each kind of page, over words that would do for a class with a cell a page, with two, or with none.
func TestNoClass(t *testing.T) {
	for _, w := range []int64{-1, -2, -3, 0} {
		m := having(t, alike(most, w))
		for _, k := range append([]int{0, 5, 6, 7, -1, 16, 32, 63, 64}, far...) {
			for _, p := range []int{0, 1, pages - 1, -1, pages, greatest, least} {
				checkNone(t, m, p, k)
			}
		}
	}
}

// TestNotAllWords: words that end inside of the page, right at its end, and ahead of it, by each number of words.
func TestNotAllWords(t *testing.T) {
	for k := 1; k <= smalls; k++ {
		for _, p := range []int{0, 1, 2, 31, pages - 1} {
			for n := max(0, (p-1)*pageWords-1); n <= min(most, (p+2)*pageWords); n++ {
				m := having(t, alike(n, int64(-1-counts[k])))
				if n < (p+1)*pageWords {
					checkNone(t, m, p, k)
				} else {
					checkThere(t, m, p, k)
				}
			}
		}
	}
}

// TestNotMade: words that nobody made, and no words.
func TestNotMade(t *testing.T) {
	for _, m := range []*mem.Mem{nil, {}, (*mem.Mem)(nil).Clone(), new(mem.Mem).Clone(), mem.New(0), mem.New(-1), mem.New(least)} {
		for _, p := range []int{0, 1, -1, pages - 1, pages, greatest, least} {
			for _, k := range []int{0, 1, 2, 3, 4, 5, -1, greatest, least} {
				checkNone(t, m, p, k)
			}
		}
	}
}

// TestAnswersAreNewMemory: P2: what All answers is nobody else's, behind its end neither.
func TestAnswersAreNewMemory(t *testing.T) {
	for k := 1; k <= smalls; k++ {
		m := having(t, unlike(2*pageWords))
		c := checkBuild(t, m, 1, k)
		one, _ := chain.All(m, 1, k, c)
		two, _ := chain.All(m, 1, k, c)
		want := slices.Clone(two)
		for i := range one[:cap(one)] {
			one[:cap(one)][i] = 77
		}
		if !slices.Equal(two, want) {
			t.Errorf("P2: two answers of All share memory: %v", two)
		}
		checkAll(t, m, 1, k, c, want, true)
		m.Fill(0, 2*pageWords, 5)
		if !slices.Equal(two, want) {
			t.Errorf("P2: an answer of All changed with the words: %v", two)
		}
	}
}

// rule makes numbers one behind the other, always the same.
type rule uint64

func (r *rule) below(n int) int {
	*r = *r*6364136223846793005 + 1442695040888963407
	return int(uint64(*r)>>33) % n
}

// script is a page with a chain that calls change, and the plain list of what is free.
type script struct {
	p, k int
	c    chain.Chain
	free []int
}

// taken are the cells that are not free.
func (s *script) taken() []int {
	var l []int
	for i := range counts[s.k] {
		if !slices.Contains(s.free, i) {
			l = append(l, i)
		}
	}
	return l
}

// take takes one, or is refused where none is free.
func (s *script) take(t *testing.T, m *mem.Mem) {
	t.Helper()
	if len(s.free) == 0 {
		checkTake(t, m, s.p, s.k, s.c, 0, none, false)
		return
	}
	left := chain.Chain{First: counts[s.k], N: len(s.free) - 1}
	if left.N > 0 {
		left.First = s.free[1]
	}
	checkTake(t, m, s.p, s.k, s.c, s.free[0], left, true)
	s.c, s.free = left, s.free[1:]
}

// give gives one back, or is refused where all are free.
func (s *script) give(t *testing.T, m *mem.Mem, r *rule) {
	t.Helper()
	taken := s.taken()
	if len(taken) == 0 {
		checkGive(t, m, s.p, s.k, s.c, r.below(counts[s.k]), none, 0, false)
		return
	}
	i := taken[r.below(len(taken))]
	more := chain.Chain{First: i, N: len(s.free) + 1}
	checkGive(t, m, s.p, s.k, s.c, i, more, int64(-1-s.c.First), true)
	s.c, s.free = more, append([]int{i}, s.free...)
}

// write has whoever holds a taken cell write what might be taken for a free one's.
func (s *script) write(m *mem.Mem, r *rule) {
	if taken := s.taken(); len(taken) > 0 {
		a := begins(s.p, s.k, taken[r.below(len(taken))])
		m.Store(a+r.below(sizes[s.k]), int64(-1-r.below(counts[s.k]+1)))
	}
}

// TestScripts: P8.2: three pages side by side in one memory, of each class and of one other, taken from and given back to by turns, now rather the one, now rather the other.
func TestScripts(t *testing.T) {
	for k := 1; k <= smalls; k++ {
		m := having(t, unlike(5*pageWords))
		r := rule(k)
		all := []*script{{p: 1, k: k}, {p: 2, k: smalls + 1 - k}, {p: 3, k: k}}
		for _, s := range all {
			s.c, s.free = checkBuild(t, m, s.p, s.k), near(0, counts[s.k]-1)
		}
		empty, full := 0, 0
		for step := range 6000 {
			s := all[r.below(len(all))]
			switch x := r.below(8); {
			case x == 0:
				s.write(m, &r)
			case x == 1 || x < 7 && step/200%2 == 0:
				s.take(t, m)
			default:
				s.give(t, m, &r)
			}
			for _, s := range all {
				checkAll(t, m, s.p, s.k, s.c, s.free, true)
			}
			switch len(s.free) {
			case 0:
				empty++
			case counts[s.k]:
				full++
			}
		}
		if empty < 100 || full < 100 {
			t.Errorf("the script of class %d was at an end too seldom: %d, %d", k, empty, full)
		}
		// The pages beside were never written.
		words := m.All()
		if !slices.Equal(words[:pageWords], unlike(pageWords)) || !slices.Equal(words[4*pageWords:], unlike(5 * pageWords)[4*pageWords:]) {
			t.Errorf("P8.1: the pages beside changed, with class %d", k)
		}
	}
}

// TestGivenBackInEachOrder: P8.2: all taken, then given back in each order: of many cells in some.
func TestGivenBackInEachOrder(t *testing.T) {
	for k := 1; k <= smalls; k++ {
		for _, order := range orders(k) {
			m := having(t, unlike(2*pageWords))
			c := checkBuild(t, m, 1, k)
			for ok := true; ok; {
				var left chain.Chain
				if _, left, ok = chain.Take(m, 1, k, c); ok {
					c = left
				}
			}
			for j, i := range order {
				more := chain.Chain{First: i, N: j + 1}
				checkGive(t, m, 1, k, c, i, more, int64(-1-c.First), true)
				c = more
			}
			back := slices.Clone(order)
			slices.Reverse(back)
			checkWhole(t, m, 1, k, c, back)
		}
	}
}

// TestNothingElse: P3: asked again, between calls on other words and pages that are granted and refused, the answers are the same.
func TestNothingElse(t *testing.T) {
	for k := 1; k <= smalls; k++ {
		for j, free := range orders(k) {
			words := unlike(3 * pageWords)
			c := lay(words, 1, k, free)
			m, other := having(t, words), having(t, alike(3*pageWords, -1))
			for range 2 {
				checkAll(t, m, 1, k, c, free, true)
				chain.All(other, 1, k, chain.Chain{First: 0, N: 2})
				chain.Take(other, 1, k, chain.Chain{First: 1, N: greatest})
				chain.Build(other, j%3, k)
				chain.Give(m, 1, k, chain.Chain{First: -1, N: 0}, 0)
				chain.Build(m, 2, j%6)
			}
			checkWhole(t, m, 1, k, c, free)
		}
	}
}
