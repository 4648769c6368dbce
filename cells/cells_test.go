package cells_test

import (
	"slices"
	"testing"

	"scutage/cells"
)

// TestExample: the chapter's.
func TestExample(t *testing.T) {
	c := cells.New(2)
	if p, ok := c.Carve(4); p != 0 || !ok {
		t.Errorf("P11.1: Carve(4) = %d, %t; want 0, true", p, ok)
	}
	for _, x := range []struct {
		want int
		ok   bool
	}{{0, true}, {16, true}, {0, false}} {
		if a, ok := c.Take(0); a != x.want || ok != x.ok {
			t.Errorf("P11.1: Take(0) = %d, %t; want %d, %t", a, ok, x.want, x.ok)
		}
	}
}

// TestWrittenOut: a heap of all kinds, worked out by hand from the chapter.
func TestWrittenOut(t *testing.T) {
	c := cells.New(6)
	for _, x := range []struct{ k, want int }{{3, 0}, {4, 1}, {1, 2}} {
		if p, ok := c.Carve(x.k); p != x.want || !ok {
			t.Fatalf("P11.1: Carve(%d) = %d, %t; want %d, true", x.k, p, ok, x.want)
		}
	}
	for _, x := range []struct{ p, want int }{{0, 0}, {0, 8}, {0, 16}, {1, 32}, {2, 64}, {2, 66}} {
		if a, ok := c.Take(x.p); a != x.want || !ok {
			t.Fatalf("P11.1: Take(%d) = %d, %t; want %d, true", x.p, a, ok, x.want)
		}
	}
	if a, ok := c.Large(2); a != 96 || !ok {
		t.Fatalf("P11.1: Large(2) = %d, %t; want 96, true", a, ok)
	}
	for _, a := range []int{15, 8, 33, 159} {
		if !c.Store(a, 7) {
			t.Errorf("P11.1: Store(%d) = false; want true", a)
		}
	}
	if !c.Give(8) || !c.Give(64) || c.Give(8) || c.Give(9) || c.Give(128) || c.Give(48) {
		t.Error("P11.1: Give: just 8 and 64, once each")
	}
	if got, want := c.All(), []int{0, 16, 32, 66, 96}; !slices.Equal(got, want) {
		t.Errorf("P11.1: All() = %v; want %v", got, want)
	}
	for p, x := range []struct{ kind, left int }{{3, 2}, {4, 1}, {1, 15}, {5, 0}, {6, 0}, {0, 0}, {-1, 0}} {
		if kind, left := c.Kind(p), c.Left(p); kind != x.kind || left != x.left {
			t.Errorf("P11.1: of page %d: Kind %d, Left %d; want %d, %d", p, kind, left, x.kind, x.left)
		}
	}
	for _, x := range []struct {
		a, base int
		w       int64
	}{{0, 0, 0}, {7, 0, 0}, {8, -1, -4}, {15, -1, 7}, {16, 16, 0}, {24, -1, -5}, {33, 32, 7}, {47, 32, 0}, {48, -1, -3}, {64, -1, -3}, {66, 66, 0}, {67, 66, 0}, {68, -1, -4}, {94, -1, -17}, {96, 96, 0}, {128, 96, 0}, {159, 96, 7}, {160, -1, 0}} {
		if w, ok := c.Load(x.a); c.Base(x.a) != x.base || w != x.w || !ok {
			t.Errorf("P11.1: of address %d: Base %d, Load %d, %t; want %d, %d, true", x.a, c.Base(x.a), w, ok, x.base, x.w)
		}
	}
	if a, ok := c.Take(0); a != 8 || !ok {
		t.Errorf("P11.1: Take(0) = %d, %t; want 8, true: given back last", a, ok)
	}
	if w, ok := c.Load(15); w != 0 || !ok {
		t.Errorf("P11.1: Load(15) = %d, %t; want 0, true: taken anew", w, ok)
	}
	if !c.Give(66) || c.Drop(1) || !c.Drop(2) || c.Drop(2) || c.Drop(3) || c.Free() != 2 {
		t.Error("P11.1: Drop: just page 2, once")
	}
}

// TestNew: each number, and the far ones: all free, all words 0, none more, and all to be had.
func TestNew(t *testing.T) {
	l := far()
	for n := -130; n <= 200; n++ {
		l = append(l, n)
	}
	for _, n := range l {
		pages := min(max(n, 0), most)
		h := &held{heap: cells.New(n), plain: newPlain(pages)}
		h.check(t, "new")
		h.quiet = true
		h.large(t, pages+1)
		h.large(t, pages)
		h.large(t, 1)
		h.check(t, "all of it was taken")
		h = &held{heap: cells.New(n), plain: newPlain(pages), quiet: true}
		for range pages + 1 {
			h.carve(t, 2)
		}
		h.check(t, "all of it was carved")
	}
}

// TestTold: heaps of all kinds, each page and address, and far beyond the ends; nothing changes by asking.
func TestTold(t *testing.T) {
	for _, l := range slices.Concat(few(), many()) {
		h := l.lay(t)
		h.checkFar(t, "laid")
		h.check(t, "asked far beyond")
	}
}

// TestFar: numbers that no heap has, told to each call that changes something: nothing changes.
func TestFar(t *testing.T) {
	for _, l := range slices.Concat(few(), many()) {
		h := l.lay(t)
		h.quiet = true
		for _, n := range append(far(), 2048, -1, -2) {
			h.carve(t, n)
			h.take(t, n)
			h.large(t, n)
			h.give(t, n)
			h.drop(t, n)
			h.store(t, n, unlike(1, 5))
		}
		h.check(t, "told far beyond")
	}
}

// TestBeyond: numbers between a heap's end and the greatest heap's one.
func TestBeyond(t *testing.T) {
	for _, l := range slices.Concat(few(), many()) {
		h := l.lay(t)
		h.quiet = true
		for n := len(l.kinds); n <= most*pageWords; n++ {
			h.take(t, n)
			h.drop(t, n)
			if n > smalls {
				h.carve(t, n)
			}
			if n > len(l.kinds) {
				h.large(t, n)
			}
			if n >= len(h.plain.words) {
				h.give(t, n)
				h.store(t, n, unlike(2, 5))
			}
		}
		h.check(t, "told beyond")
	}
}

// emptied takes all free cells of page p: they come in the order of its chain.
func (h *held) emptied(t *testing.T, p int) {
	for ok := true; ok; {
		_, ok = h.take(t, p)
	}
}

// TestCarve: each class and what is none, over each heap; then over and over, till no page is free.
func TestCarve(t *testing.T) {
	for _, l := range few() {
		for k := -2; k <= other+3; k++ {
			h := l.lay(t)
			if p, ok := h.carve(t, k); ok {
				h.emptied(t, p)
			}
		}
	}
	for _, l := range slices.Concat(few(), many()) {
		h := l.lay(t)
		for i := range len(l.kinds) + 1 {
			h.carve(t, 1+i%smalls)
		}
	}
}

// TestCarveLowest: each page of heaps of each number of pages the lowest free one, with those above it free and taken.
func TestCarveLowest(t *testing.T) {
	for _, n := range []int{1, 2, 3, 7, 16, 33, most} {
		for p := range n {
			k := 1 + p%smalls
			for _, with := range []int{2, large} {
				kinds := slices.Repeat([]int{with}, n)
				kinds[p] = 0
				laid(t, kinds, full).carve(t, k)
				clear(kinds[p:])
				laid(t, kinds, some).carve(t, k)
			}
		}
	}
}

// TestCarveAnew: a page that was a large object's, its first one or another one, or another class's, with all of its words written on.
func TestCarveAnew(t *testing.T) {
	for ahead := 1; ahead <= other; ahead++ {
		for k := 1; k <= smalls; k++ {
			for p := range 3 {
				kinds := []int{1, 1, 1}
				kinds[p] = ahead
				if ahead == other {
					kinds = []int{large, other, other}
				}
				h := laid(t, kinds, back)
				for i := range kinds {
					if !h.drop(t, i) {
						h.give(t, i*pageWords)
					}
				}
				for range kinds {
					at, _ := h.carve(t, k)
					h.emptied(t, at)
				}
			}
		}
	}
}

// TestTake: each page of each kind, and one step beyond each end; then over and over, till no cell is free.
func TestTake(t *testing.T) {
	for _, l := range slices.Concat(few(), many()) {
		h := l.lay(t)
		for p := -1; p <= len(l.kinds); p++ {
			h.take(t, p)
			h.emptied(t, p)
		}
	}
}

// TestTakeClears: cells that were stored in, given back and taken anew, by turns, in each order of two.
func TestTakeClears(t *testing.T) {
	for k := 1; k <= smalls; k++ {
		n := counts[k]
		for first := range n {
			for second := range n {
				h := laid(t, []int{0, k, 5}, full)
				h.give(t, pageWords+first*sizes[k])
				h.give(t, pageWords+second*sizes[k])
				h.emptied(t, 1)
			}
		}
	}
}

// words are such as a heap writes itself, and the ends.
var words = []int64{0, 1, -1, -2, -3, -5, -9, -17, -18, greatest, least, least + 1}

// TestWordsTellNothing: what is stored in a taken cell, and in those beside it, does not touch the chain.
func TestWordsTellNothing(t *testing.T) {
	for k := 1; k <= smalls; k++ {
		for _, w := range words {
			h := laid(t, []int{k, k}, full)
			h.quiet = true
			for a := range 2 * pageWords {
				h.store(t, a, w)
			}
			for i := range counts[k] {
				h.give(t, i*sizes[k])
			}
			h.check(t, "given back over such words")
			h.quiet = false
			h.emptied(t, 0)
			h.drop(t, 1)
		}
	}
}

// TestLarge: each number of pages over each heap; then over and over, till there are no more.
func TestLarge(t *testing.T) {
	for _, l := range slices.Concat(few(), many()) {
		for _, n := range []int{-2, -1, 0, 1, 2, 3, 4, len(l.kinds) - 1, len(l.kinds), len(l.kinds) + 1} {
			l.lay(t).large(t, n)
		}
		for n := 1; n <= 3; n++ {
			h := l.lay(t)
			for range len(l.kinds)/n + 1 {
				h.large(t, n)
			}
		}
	}
}

// TestLargeEachLength: of heaps of each number of pages: each number of pages, with words in all of them.
func TestLargeEachLength(t *testing.T) {
	for n := 1; n <= most; n++ {
		for _, pages := range []int{1, n/2 + 1, n - 1, n, n + 1} {
			dirty(t, n).large(t, pages)
			h := dirty(t, n)
			h.quiet = false
			h.large(t, pages)
		}
	}
	for pages := -2; pages <= most+2; pages++ {
		h := dirty(t, most)
		h.quiet = false
		h.large(t, pages)
	}
}

// hollow are n pages, all taken but for the runs.
func hollow(n int, with int, runs ...[2]int) []int {
	kinds := slices.Repeat([]int{with}, n)
	for _, run := range runs {
		clear(kinds[run[0] : run[0]+run[1]])
	}
	return kinds
}

// TestLargeOneRun: a run of each length at each place.
func TestLargeOneRun(t *testing.T) {
	for _, n := range []int{1, 2, 9, most} {
		// Of many pages some of the places and lengths.
		step := 1 + n/9
		for first := 0; first < n; first += step {
			for length := 0; first+length <= n; length += step {
				for _, pages := range []int{1, length - 1, length, length + 1, n, n + 1} {
					laid(t, hollow(n, 2, [2]int{first, length}), full).large(t, pages)
				}
			}
		}
	}
}

// TestLargeTwoRuns: the first run too short, just long enough, and longer.
func TestLargeTwoRuns(t *testing.T) {
	const n = 8
	for first := range n {
		for a := 1; first+a < n; a++ {
			for second := first + a + 1; second < n; second++ {
				for b := 1; second+b <= n; b++ {
					for _, pages := range []int{1, a, a + 1, b, b + 1} {
						laid(t, hollow(n, large, [2]int{first, a}, [2]int{second, b}), full).large(t, pages)
					}
				}
			}
		}
	}
}

// giveEach gives each address of such a heap, and once more; laid anew whenever one was granted.
func giveEach(t *testing.T, l layout, step int) int {
	n := 0
	h := l.lay(t)
	for a := -1; a <= len(h.plain.words); a += step {
		if !h.give(t, a) {
			continue
		}
		n++
		p := a / pageWords
		if h.give(t, a) {
			t.Fatalf("P11.1: Give(%d) twice: true", a)
		}
		if got, ok := h.take(t, p); ok && got != a {
			t.Fatalf("P11.1: Take(%d) = %d; want %d, which was given back last", p, got, a)
		}
		h = l.lay(t)
	}
	return n
}

// TestGive: each address of heaps of all kinds, and one step beyond each end.
func TestGive(t *testing.T) {
	n := 0
	for _, l := range few() {
		n += giveEach(t, l, 1)
	}
	for _, l := range many() {
		n += giveEach(t, l, 1+len(l.kinds)/8*5)
	}
	if n < 2000 {
		t.Errorf("only %d were given", n)
	}
}

// TestGiveAll: each address of one heap in turn, from either end; nothing is taken then.
func TestGiveAll(t *testing.T) {
	for _, l := range slices.Concat(few(), many()) {
		up, down := l.lay(t), l.lay(t)
		for a := range up.plain.words {
			// Of those that are refused one look at the end does: what they change is seen.
			up.quiet = !up.heap.Is(a)
			up.give(t, a)
			end := len(down.plain.words) - 1 - a
			down.quiet = !down.heap.Is(end)
			down.give(t, end)
		}
		for _, h := range []*held{up, down} {
			h.check(t, "all was given")
			if got := h.heap.All(); len(got) != 0 {
				t.Fatalf("P11.1: all was given, All() = %v", got)
			}
		}
	}
}

// TestGiveLastTakenFirst: cells of a full page, given in each order of three, come back the other way round.
func TestGiveLastTakenFirst(t *testing.T) {
	for k := 1; k <= smalls; k++ {
		n := counts[k]
		for first := range n {
			for second := range n {
				for third := 0; third < n; third += 1 + n/5 {
					h := laid(t, []int{k}, full)
					var given []int
					for _, i := range []int{first, second, third} {
						if a := i * sizes[k]; h.give(t, a) {
							given = append(given, a)
						}
					}
					for _, want := range slices.Backward(given) {
						if a, ok := h.heap.Take(0); a != want || !ok {
							t.Fatalf("P11.1: given %v, Take(0) = %d, %t; want %d", given, a, ok, want)
						}
					}
					if a, ok := h.heap.Take(0); a != 0 || ok {
						t.Fatalf("P11.1: given %v and taken, Take(0) = %d, %t; want 0, false", given, a, ok)
					}
				}
			}
		}
	}
}

// TestDrop: each page of each kind, and one step beyond each end; dropped once more: it is free already.
func TestDrop(t *testing.T) {
	for _, l := range slices.Concat(few(), many()) {
		h := l.lay(t)
		for p := -1; p <= len(l.kinds); p++ {
			h.drop(t, p)
			if h.drop(t, p) {
				t.Fatalf("P11.1: Drop(%d) twice: true", p)
			}
		}
	}
}

// TestDropByTakenCells: a page with all cells taken, with one less after the other, down to each cell the only one, and with none.
func TestDropByTakenCells(t *testing.T) {
	for k := 1; k <= smalls; k++ {
		n := counts[k]
		for last := range n {
			h := laid(t, []int{3, k, 3}, full)
			for i := range n {
				if h.drop(t, 1) {
					t.Fatalf("P11.1: of class %d, %d cells taken, Drop = true", k, n-i)
				}
				h.give(t, pageWords+(last+1+i)%n*sizes[k])
			}
			if !h.drop(t, 1) || h.drop(t, 1) {
				t.Fatalf("P11.1: of class %d, no cell taken, Drop: just once", k)
			}
		}
	}
}

// TestDropAndAnew: a dropped page is carved for each class, or is a large object's, alone and with its neighbours.
func TestDropAndAnew(t *testing.T) {
	for k := 1; k <= smalls; k++ {
		for _, how := range []int{fresh, back} {
			for p := range 3 {
				for next := 1; next <= smalls; next++ {
					h := laid(t, []int{k, k, k}, how)
					h.drop(t, p)
					h.carve(t, next)
					h.emptied(t, p)
					h.give(t, p*pageWords)
				}
				h := laid(t, []int{k, k, k}, how)
				h.drop(t, p)
				h.large(t, 2)
				h.large(t, 1)
				h.drop(t, p)
				h.give(t, p*pageWords)
				h.drop(t, (p+1)%3)
				h.drop(t, (p+2)%3)
				h.large(t, 3)
			}
		}
	}
}

// TestStore: each address of heaps of all kinds, and one step beyond each end: just that one word is written, or none.
func TestStore(t *testing.T) {
	for _, l := range few() {
		h := l.lay(t)
		for a := -1; a <= len(h.plain.words); a++ {
			h.store(t, a, unlike(a, 6))
		}
	}
	for _, l := range many() {
		h := l.lay(t)
		h.quiet = true
		for a := -1; a <= len(h.plain.words); a++ {
			h.store(t, a, unlike(a, 6))
			h.checkBrief(t, "behind Store")
		}
	}
	for _, w := range words {
		h := laid(t, []int{0, 1, 2, 3, 4, 5, 6}, mixed)
		for a := -1; a <= len(h.plain.words); a += 5 {
			h.store(t, a, w)
		}
	}
}

// TestAllApart: P2: what All told can be written on, behind its end too; neither the heap nor what was told else changes.
func TestAllApart(t *testing.T) {
	for _, l := range slices.Concat(few(), many()) {
		h := l.lay(t)
		one, two := h.heap.All(), h.heap.All()
		whole := one[:cap(one)]
		for i := range whole {
			whole[i] = 77
		}
		h.check(t, "what All told was written on")
		want := h.plain.all()
		h.quiet = true
		for a := range h.plain.words {
			h.give(t, a)
		}
		if !slices.Equal(two, want) {
			t.Fatalf("P2: an answer of All is %v; want %v", two, want)
		}
	}
}

// TestMemApart: what Mem told can be written on, and stays when the heap goes on; a clone has all words, taken or not.
func TestMemApart(t *testing.T) {
	for _, l := range slices.Concat(few(), many()) {
		h := l.lay(t)
		m, stays := h.heap.Mem(), h.heap.Mem()
		for a := range h.plain.words {
			if !m.Store(a, unlike(a, 7)) {
				t.Fatalf("P11.1: word %d of Mem() is not there", a)
			}
		}
		if m.Store(len(h.plain.words), 1) {
			t.Fatalf("P11.1: Mem() has more than %d words", len(h.plain.words))
		}
		h.check(t, "what Mem told was written on")
		want := slices.Clone(h.plain.words)
		h.quiet = true
		for a := range h.plain.words {
			h.store(t, a, unlike(a, 8))
			h.give(t, a)
		}
		for k := range smalls {
			h.carve(t, 1+k)
		}
		h.large(t, 1)
		if got := stays.All(); !slices.Equal(got, want) {
			t.Fatalf("P2: an answer of Mem changed with the heap: %v; want %v", got, want)
		}
		for a := range h.plain.words {
			if w, _ := m.Load(a); w != unlike(a, 7) {
				t.Fatalf("P2: word %d of an answer of Mem changed with the heap", a)
			}
		}
	}
}

// TestNotMade: no heap, and one that nobody made: nothing is told, and nothing to be had.
func TestNotMade(t *testing.T) {
	l := far()
	for n := -3; n <= most*pageWords+3; n++ {
		l = append(l, n)
	}
	for _, c := range []*cells.Cells{nil, {}, new(cells.Cells)} {
		for _, n := range l {
			for call, f := range map[string]func(int) (int, bool){"Carve": c.Carve, "Take": c.Take, "Large": c.Large} {
				if got, ok := f(n); got != 0 || ok {
					t.Fatalf("P11.1: not made: %s(%d) = %d, %t; want 0, false", call, n, got, ok)
				}
			}
			if c.Give(n) || c.Drop(n) || c.Is(n) || c.Store(n, 1) {
				t.Fatalf("P11.1: not made: Give, Drop, Is or Store of %d = true", n)
			}
			if left, base, kind := c.Left(n), c.Base(n), c.Kind(n); left != 0 || base != -1 || kind != -1 {
				t.Fatalf("P11.1: not made: Left, Base, Kind of %d = %d, %d, %d; want 0, -1, -1", n, left, base, kind)
			}
			if w, ok := c.Load(n); w != 0 || ok {
				t.Fatalf("P11.1: not made: Load(%d) = %d, %t; want 0, false", n, w, ok)
			}
		}
		if all, free, m := c.All(), c.Free(), c.Mem(); len(all) != 0 || free != 0 || m != nil {
			t.Fatalf("P11.1: not made: All, Free, Mem = %v, %d, %v; want nothing, 0, nil", all, free, m)
		}
	}
}

// TestNoPages: a heap of none is made all the same: its words, of which there are none, can be had.
func TestNoPages(t *testing.T) {
	for _, n := range []int{0, -1, -64, least} {
		h := &held{heap: cells.New(n), plain: newPlain(0)}
		if m := h.heap.Mem(); m == nil || m.Len() != 0 {
			t.Fatalf("P11.1: of New(%d), Mem() = %v; want one without words", n, m)
		}
		for x := -2; x <= most*pageWords; x++ {
			h.carve(t, x)
			h.take(t, x)
			h.large(t, x)
			h.give(t, x)
			h.drop(t, x)
			h.store(t, x, 1)
		}
		h.checkFar(t, "of no pages")
	}
}

// rule makes numbers one behind the other, always the same.
type rule uint64

func (r *rule) below(n int) int {
	*r = *r*6364136223846793005 + 1442695040888963407
	return int(uint64(*r)>>33) % n
}

// script does one thing after the other, and notes, from the answers alone, what is taken: where it begins, and its words.
type script struct {
	*held
	rule rule
	live map[int]int
	// What was handed out, and how often a call was refused because all was taken.
	cells, larges, refused int
}

func newScript(pages int, seed int) *script {
	return &script{held: newHeld(pages), rule: rule(131*pages + seed), live: map[int]int{}}
}

// has notes that n words from a on are taken now.
func (s *script) has(t *testing.T, a int, n int) {
	for b, words := range s.live {
		if a < b+words && b < a+n {
			t.Fatalf("P11.2: %d words at %d meet %d words at %d", n, a, words, b)
		}
	}
	if a < 0 || a+n > len(s.plain.words) {
		t.Fatalf("P11.2: %d words at %d are not all there", n, a)
	}
	for i := range n {
		if w, ok := s.heap.Load(a + i); w != 0 || !ok {
			t.Fatalf("P11.1: word %d of what was taken at %d is %d, %t; want 0", i, a, w, ok)
		}
	}
	s.live[a] = n
}

// some is one of the addresses that are taken, or 0.
func (s *script) some() int {
	all := s.heap.All()
	if len(all) == 0 {
		return 0
	}
	return all[s.rule.below(len(all))]
}

func (s *script) takeCell(t *testing.T, p int) {
	kind := s.heap.Kind(p)
	a, ok := s.take(t, p)
	if ok {
		s.has(t, a, sizes[kind])
		s.cells++
	}
}

func (s *script) takeLarge(t *testing.T, n int) {
	a, ok := s.large(t, n)
	if ok {
		s.has(t, a, n*pageWords)
		s.larges++
	} else if n > 0 {
		s.refused++
	}
}

func (s *script) giveBack(t *testing.T, a int) {
	_, is := s.live[a]
	if ok := s.give(t, a); ok != is {
		t.Fatalf("P11.1: Give(%d) = %t; it is taken: %t", a, ok, is)
	}
	delete(s.live, a)
}

// step does one thing, now and then one that can't be; by turns it rather takes, and rather gives.
func (s *script) step(t *testing.T, gives bool) {
	r, n := &s.rule, len(s.plain.kinds)
	x := r.below(12)
	if gives && x < 4 {
		s.giveBack(t, s.some())
		return
	}
	switch x {
	case 0, 1, 2, 3, 4:
		s.takeCell(t, r.below(n+2)-1)
	case 5:
		s.carve(t, 1+r.below(smalls))
	case 6:
		s.takeLarge(t, r.below(n+2))
	case 7:
		s.takeLarge(t, 1+r.below(3))
	case 8:
		s.giveBack(t, s.some())
	case 9:
		s.giveBack(t, r.below(n*pageWords+2)-1)
	case 10:
		s.drop(t, r.below(n+2)-1)
	default:
		a := r.below(n*pageWords+2) - 1
		s.store(t, a, unlike(a, r.below(1000)))
	}
}

// checkLive: P11.2: each word is of just that which was taken there, or of none.
func (s *script) checkLive(t *testing.T) {
	if got, want := len(s.heap.All()), len(s.live); got != want {
		t.Fatalf("P11.2: All tells of %d; %d were taken and not given", got, want)
	}
	words := 0
	for _, a := range s.heap.All() {
		n := s.live[a]
		words += n
		for i := range n {
			if base := s.heap.Base(a + i); base != a {
				t.Fatalf("P11.2: Base(%d) = %d; want %d", a+i, base, a)
			}
		}
	}
	for a := range s.plain.words {
		if s.heap.Base(a) >= 0 {
			words--
		}
	}
	if words != 0 {
		t.Fatalf("P11.2: %d words fewer have a base than were taken", words)
	}
}

// TestScripts: P11.2: long scripts, step by step, against the plain lists, and by the answers alone.
func TestScripts(t *testing.T) {
	for _, x := range []struct{ pages, seeds, steps int }{{0, 1, 200}, {1, 4, 2000}, {2, 4, 2000}, {3, 4, 2000}, {5, 3, 2000}, {8, 3, 2000}, {17, 2, 2000}, {33, 1, 2000}, {most, 1, 2000}} {
		cells, larges, refused := 0, 0, 0
		for seed := range x.seeds {
			s := newScript(x.pages, seed)
			for i := range x.steps {
				s.step(t, i/150%2 == 1)
				s.checkLive(t)
			}
			cells, larges, refused = cells+s.cells, larges+s.larges, refused+s.refused
		}
		if x.pages > 0 && (cells < 100 || larges < 50 || refused < 50) {
			t.Errorf("scripts of %d pages took %d cells and %d large objects, and were refused %d times: too seldom", x.pages, cells, larges, refused)
		}
	}
}

// TestNeighbours: P11.2: pages of each class side by side, all taken, each with words of its own; what goes leaves the others' words alone, and so does what comes in its place.
func TestNeighbours(t *testing.T) {
	for k := 1; k <= smalls; k++ {
		for l := 1; l <= large; l++ {
			for a := 0; a < 3*pageWords; a += sizes[k] {
				h := laid(t, []int{k, l, k}, full)
				h.give(t, a)
				p := a / pageWords
				h.take(t, p)
				h.scribble(t, a, sizes[k], 9)
			}
		}
	}
}

// TestNothingElse: P3: the same calls on a heap that is alike answer alike, whatever others are told between.
func TestNothingElse(t *testing.T) {
	for _, pages := range []int{1, 2, 6, 20} {
		one, two, between := newScript(pages, 1), newScript(pages, 1), newScript(pages, 3)
		for _, s := range []*script{one, two, between} {
			s.quiet = true
		}
		for i := range 1000 {
			gives := i/100%2 == 1
			one.step(t, gives)
			between.step(t, !gives)
			two.step(t, gives)
			if !slices.Equal(one.heap.All(), two.heap.All()) || !slices.Equal(one.heap.Mem().All(), two.heap.Mem().All()) {
				t.Fatalf("P3: two heaps that were told alike have %v and %v", one.heap.All(), two.heap.All())
			}
		}
		one.check(t, "told alike")
		between.check(t, "told else")
	}
}
