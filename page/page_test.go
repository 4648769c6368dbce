package page_test

import (
	"math"
	"slices"
	"testing"

	"scutage/page"
)

const (
	least    = math.MinInt64
	greatest = math.MaxInt64
	most     = 64
	smalls   = 4
	large    = 5
	other    = 6
)

// far are numbers that no page, class or number of pages has: such as are one when cut short, and as far out as can be, with one step for each page less.
func far() []int {
	l := []int{-5, -6, -7, -31, -32, -33, -63, -64, -65, -127, -128, -255, -256, 65, 66, 127, 128, 129, 255, 256, 257, 258, 261, 2048, 1 << 16, 1<<16 + 1,
		1<<31 - 1, 1 << 31, 1 << 32, 1<<32 + 1, 1<<32 + 2, 1<<32 + 5, 1<<32 + 63, -1 << 31, -1 << 32, -1<<32 + 1, -1<<32 + 5,
		1 << 57, 1 << 58, 1 << 59, 1 << 60, 1 << 61, 1 << 62, 1<<62 + 1, -1 << 61, -1 << 62, -1<<62 + 1}
	for p := range most + 2 {
		l = append(l, greatest-p, least+p)
	}
	return l
}

// between are the numbers from lo to hi, and the far ones.
func between(lo int, hi int) []int {
	l := far()
	for n := lo; n <= hi; n++ {
		l = append(l, n)
	}
	return l
}

// alike are n pages of one kind; of a large object's other pages the first one is its first one.
func alike(n int, kind int) []int {
	l := slices.Repeat([]int{kind}, n)
	if kind == other && n > 0 {
		l[0] = large
	}
	return l
}

// firsts are what First must tell of each page, worked out from the kinds.
func firsts(kinds []int) []int {
	var l []int
	for p, kind := range kinds {
		switch {
		case kind == 0:
			l = append(l, -1)
		case kind == other:
			l = append(l, l[p-1])
		default:
			l = append(l, p)
		}
	}
	return l
}

// sizes are what Size must tell of each page: how many have it as their first one.
func sizes(kinds []int) []int {
	l := make([]int, len(kinds))
	for _, first := range firsts(kinds) {
		if first >= 0 {
			l[first]++
		}
	}
	return l
}

// fits tells whether n pages from p on are there and free.
func fits(kinds []int, p int, n int) bool {
	for i := range n {
		if p+i >= len(kinds) || kinds[p+i] != 0 {
			return false
		}
	}
	return true
}

// lowest is where the lowest n free pages that follow one another begin; -1, if there are none.
func lowest(kinds []int, n int) int {
	for p := range kinds {
		if n >= 1 && n <= len(kinds) && fits(kinds, p, n) {
			return p
		}
	}
	return -1
}

// counted is how many pages are free, and how many of them follow one another, at most.
func counted(kinds []int) (int, int) {
	count, longest, run := 0, 0, 0
	for _, kind := range kinds {
		run++
		if kind != 0 {
			run = 0
			continue
		}
		count++
		longest = max(longest, run)
	}
	return count, longest
}

// checkAsked asks Kind, Size and First of one page.
func checkAsked(t *testing.T, table *page.Table, p int, kind int, size int, first int, when string) {
	t.Helper()
	if got := table.Kind(p); got != kind {
		t.Fatalf("P9.1: Kind(%d) = %d; want %d: %s", p, got, kind, when)
	}
	if got := table.Size(p); got != size {
		t.Fatalf("P9.1: Size(%d) = %d; want %d: %s", p, got, size, when)
	}
	if got := table.First(p); got != first {
		t.Fatalf("P9.1: First(%d) = %d; want %d: %s", p, got, first, when)
	}
}

// checkTable asks every call that tells, of each page and one step beyond each end.
func checkTable(t *testing.T, table *page.Table, kinds []int, when string) {
	t.Helper()
	if got := table.All(); !slices.Equal(got, kinds) {
		t.Fatalf("P9.1: All() = %v; want %v: %s", got, kinds, when)
	}
	count, longest := counted(kinds)
	if got := table.Count(); got != count {
		t.Fatalf("P9.1: Count() = %d; want %d, of %v: %s", got, count, kinds, when)
	}
	if got := table.Longest(); got != longest {
		t.Fatalf("P9.1: Longest() = %d; want %d, of %v: %s", got, longest, kinds, when)
	}
	first, size := firsts(kinds), sizes(kinds)
	for p, kind := range kinds {
		checkAsked(t, table, p, kind, size[p], first[p], when)
	}
	checkAsked(t, table, -1, -1, 0, -1, when)
	checkAsked(t, table, len(kinds), -1, 0, -1, when)
}

// checkFar asks of pages that no table has.
func checkFar(t *testing.T, table *page.Table, when string) {
	t.Helper()
	for _, p := range far() {
		checkAsked(t, table, p, -1, 0, -1, when)
	}
}

// held is a table, and the plain list of kinds that it is held against.
type held struct {
	table *page.Table
	kinds []int
}

// laid is a table of these kinds, made by the calls alone: from page 0 on, with a small class on those that are free in the end.
func laid(t *testing.T, kinds []int) *held {
	t.Helper()
	h := &held{page.New(len(kinds)), slices.Clone(kinds)}
	size := sizes(kinds)
	for p, kind := range kinds {
		var got int
		ok := true
		switch kind {
		case large:
			got, ok = h.table.Span(size[p])
		case other:
			got = p
		default:
			got, ok = h.table.Take(max(kind, 1))
		}
		if got != p || !ok {
			t.Fatalf("P9.1: laying %v: page %d: %d, %t", kinds, p, got, ok)
		}
	}
	for p, kind := range kinds {
		if kind == 0 && h.table.Free(p) != 1 {
			t.Fatalf("P9.1: laying %v: page %d is not free", kinds, p)
		}
	}
	return h
}

func (h *held) check(t *testing.T, when string) {
	t.Helper()
	checkTable(t, h.table, h.kinds, when)
}

// take calls Take, and wants what the chapter says of these kinds.
func (h *held) take(t *testing.T, k int) {
	t.Helper()
	want, ok := 0, false
	was := slices.Clone(h.kinds)
	if p := lowest(h.kinds, 1); p >= 0 && k >= 1 && k <= smalls {
		want, ok = p, true
		h.kinds[p] = k
	}
	if got, is := h.table.Take(k); got != want || is != ok {
		t.Fatalf("P9.1: of %v, Take(%d) = %d, %t; want %d, %t", was, k, got, is, want, ok)
	}
	h.check(t, "after Take")
}

// span calls Span, and wants what the chapter says of these kinds.
func (h *held) span(t *testing.T, n int) {
	t.Helper()
	want, ok := 0, false
	was := slices.Clone(h.kinds)
	if p := lowest(h.kinds, n); p >= 0 {
		want, ok = p, true
		copy(h.kinds[p:], alike(n, other))
	}
	if got, is := h.table.Span(n); got != want || is != ok {
		t.Fatalf("P9.1: of %v, Span(%d) = %d, %t; want %d, %t", was, n, got, is, want, ok)
	}
	h.check(t, "after Span")
}

// free calls Free, and wants what the chapter says of these kinds.
func (h *held) free(t *testing.T, p int) {
	t.Helper()
	want := 0
	was := slices.Clone(h.kinds)
	if p >= 0 && p < len(h.kinds) {
		want = sizes(h.kinds)[p]
		clear(h.kinds[p : p+want])
	}
	if got := h.table.Free(p); got != want {
		t.Fatalf("P9.1: of %v, Free(%d) = %d; want %d", was, p, got, want)
	}
	h.check(t, "after Free")
}

// lists are all lists of kinds that n pages can be of.
func lists(n int) [][]int {
	if n == 0 {
		return [][]int{nil}
	}
	var l [][]int
	for _, ahead := range lists(n - 1) {
		for kind := 0; kind <= other; kind++ {
			// Another page of a large object stands behind one of its pages only.
			if kind < other || len(ahead) > 0 && ahead[len(ahead)-1] >= large {
				l = append(l, append(slices.Clone(ahead), kind))
			}
		}
	}
	return l
}

// few are the lists of up to that many pages.
func few(n int) [][]int {
	var l [][]int
	for i := range n + 1 {
		l = append(l, lists(i)...)
	}
	return l
}

// many are lists of many pages: of one kind, of all kinds by turns, with large objects of each length, with holes at the ends and between.
func many() [][]int {
	var l [][]int
	for _, n := range []int{5, 16, 31, 32, 33, 63, most} {
		for kind := 0; kind <= other; kind++ {
			l = append(l, alike(n, kind))
			ends := alike(n, kind)
			ends[0], ends[n-1] = 0, 0
			if kind == other {
				ends[1] = large
			}
			l = append(l, ends)
		}
		for _, unit := range [][]int{{0, 1}, {2, 0}, {0, 5}, {5, 6, 0}, {0, 5, 6, 6}, {5, 6, 5}, {3, 5, 6, 4}, {0, 0, 1, 0}, {0, 1, 2, 3, 4, 5, 6, 5, 6, 6}, {5, 6, 6, 6, 6, 6, 6, 0, 0, 0, 4}} {
			l = append(l, slices.Repeat(unit, n/len(unit)+1)[:n])
		}
		var rising []int
		for length := 1; len(rising) < n; length++ {
			rising = append(append(append(rising, alike(length, other)...), alike(length, 0)...), 1+length%smalls)
		}
		l = append(l, rising[:n])
	}
	return l
}

// TestExample: the chapter's.
func TestExample(t *testing.T) {
	table := page.New(4)
	if p, ok := table.Take(2); p != 0 || !ok {
		t.Errorf("P9.1: Take(2) = %d, %t; want 0, true", p, ok)
	}
	if p, ok := table.Span(2); p != 1 || !ok {
		t.Errorf("P9.1: Span(2) = %d, %t; want 1, true", p, ok)
	}
	if n := table.Free(0); n != 1 {
		t.Errorf("P9.1: Free(0) = %d; want 1", n)
	}
	if p, ok := table.Span(2); p != 0 || ok {
		t.Errorf("P9.1: Span(2) = %d, %t; want 0, false", p, ok)
	}
	if p, ok := table.Take(1); p != 0 || !ok {
		t.Errorf("P9.1: Take(1) = %d, %t; want 0, true", p, ok)
	}
	checkTable(t, table, []int{1, 5, 6, 0}, "the example")
}

// TestWrittenOut: a table of all kinds, worked out by hand from the chapter.
func TestWrittenOut(t *testing.T) {
	table := page.New(12)
	for k := 1; k <= smalls; k++ {
		if p, ok := table.Take(k); p != k-1 || !ok {
			t.Fatalf("P9.1: Take(%d) = %d, %t; want %d, true", k, p, ok, k-1)
		}
	}
	for _, x := range []struct{ n, want int }{{3, 4}, {1, 7}, {2, 8}} {
		if p, ok := table.Span(x.n); p != x.want || !ok {
			t.Fatalf("P9.1: Span(%d) = %d, %t; want %d, true", x.n, p, ok, x.want)
		}
	}
	if n := table.Free(2); n != 1 {
		t.Fatalf("P9.1: Free(2) = %d; want 1", n)
	}
	for p, x := range []struct{ kind, size, first int }{
		{1, 1, 0}, {2, 1, 1}, {0, 0, -1}, {4, 1, 3},
		{5, 3, 4}, {6, 0, 4}, {6, 0, 4},
		{5, 1, 7},
		{5, 2, 8}, {6, 0, 8},
		{0, 0, -1}, {0, 0, -1},
	} {
		checkAsked(t, table, p, x.kind, x.size, x.first, "written out")
	}
	checkAsked(t, table, -1, -1, 0, -1, "written out")
	checkAsked(t, table, 12, -1, 0, -1, "written out")
	if got := table.Count(); got != 3 {
		t.Errorf("P9.1: Count() = %d; want 3", got)
	}
	if got := table.Longest(); got != 2 {
		t.Errorf("P9.1: Longest() = %d; want 2", got)
	}
	for _, x := range []struct{ p, want int }{{5, 0}, {6, 0}, {2, 0}, {10, 0}, {4, 3}, {4, 0}, {7, 1}, {8, 2}, {9, 0}, {0, 1}} {
		if n := table.Free(x.p); n != x.want {
			t.Errorf("P9.1: Free(%d) = %d; want %d", x.p, n, x.want)
		}
	}
	checkTable(t, table, []int{0, 2, 0, 4, 0, 0, 0, 0, 0, 0, 0, 0}, "written out")
}

// TestNew: each number, and the far ones: all free, none more, and all to be had.
func TestNew(t *testing.T) {
	for _, n := range between(-130, 200) {
		want := min(max(n, 0), most)
		h := &held{page.New(n), alike(want, 0)}
		if h.table == nil {
			t.Fatalf("P9.1: New(%d) = nil", n)
		}
		h.check(t, "new")
		for range want + 1 {
			h.take(t, 3)
		}
		h = &held{page.New(n), alike(want, 0)}
		h.span(t, want+1)
		h.span(t, want)
		h.span(t, 1)
	}
}

// TestTold: each list of few pages, and some of many; far beyond the ends too.
func TestTold(t *testing.T) {
	for _, kinds := range few(5) {
		laid(t, kinds).check(t, "laid")
	}
	for _, kinds := range slices.Concat(few(2), many()) {
		h := laid(t, kinds)
		h.check(t, "laid")
		checkFar(t, h.table, "laid")
		h.check(t, "asked far beyond")
	}
}

// TestFree: each page of each list, and one step beyond each end; freed once more: it is free already.
func TestFree(t *testing.T) {
	for _, kinds := range slices.Concat(few(4), many()) {
		for p := -2; p <= len(kinds)+2; p++ {
			h := laid(t, kinds)
			h.free(t, p)
			h.free(t, p)
		}
	}
}

// TestFreeFar: nothing changes.
func TestFreeFar(t *testing.T) {
	for _, kinds := range slices.Concat(few(2), many()) {
		h := laid(t, kinds)
		for _, p := range far() {
			h.free(t, p)
		}
	}
}

// TestFreeInTurn: all pages, one behind the other, from either end; all are free then.
func TestFreeInTurn(t *testing.T) {
	for _, kinds := range slices.Concat(few(4), many()) {
		up, down := laid(t, kinds), laid(t, kinds)
		for p := range kinds {
			up.free(t, p)
			down.free(t, len(kinds)-1-p)
		}
		checkTable(t, up.table, alike(len(kinds), 0), "all freed, upwards")
		checkTable(t, down.table, alike(len(kinds), 0), "all freed, downwards")
	}
}

// TestTake: each class and what is none, over each list; then over and over, till none is free.
func TestTake(t *testing.T) {
	for _, kinds := range slices.Concat(few(4), many()) {
		for k := -2; k <= other+3; k++ {
			laid(t, kinds).take(t, k)
		}
		h := laid(t, kinds)
		for range len(kinds) + 1 {
			h.take(t, 1+len(kinds)%smalls)
		}
	}
}

// TestTakeFar: no class, with a page free and with none.
func TestTakeFar(t *testing.T) {
	for _, kinds := range slices.Concat(few(2), many()) {
		h := laid(t, kinds)
		for _, k := range append(far(), 0, large, other, 7, 8, 9, 16, 32, 63, 64, -1, -2, -3, -4) {
			h.take(t, k)
		}
	}
}

// TestTakeLowest: of tables of each number of pages: each page the lowest free one, with those above it free, taken, and by turns; and with none free.
func TestTakeLowest(t *testing.T) {
	for n := 1; n <= most; n += 7 {
		for k := 1; k <= smalls; k++ {
			for _, with := range []int{1, smalls, large, other} {
				for p := range n {
					kinds := alike(n, with)
					kinds[p] = 0
					if p+1 < n && with == other {
						kinds[p+1] = large
					}
					laid(t, kinds).take(t, k)
					clear(kinds[p:])
					laid(t, kinds).take(t, k)
					for above := p + 1; above < n; above += 2 {
						kinds[above] = k
					}
					laid(t, kinds).take(t, k)
				}
				h := laid(t, alike(n, with))
				h.take(t, k)
				h.take(t, k)
			}
		}
	}
}

// TestSpan: each number of pages over each list; then over and over, till there are no more.
func TestSpan(t *testing.T) {
	for _, kinds := range slices.Concat(few(4), many()) {
		for n := -2; n <= len(kinds)+2; n++ {
			laid(t, kinds).span(t, n)
		}
		for n := 1; n <= 3; n++ {
			h := laid(t, kinds)
			for range len(kinds)/n + 1 {
				h.span(t, n)
			}
		}
	}
}

// TestSpanFar: of 0, below 0, and of more pages than there are: nothing changes.
func TestSpanFar(t *testing.T) {
	for _, kinds := range slices.Concat(few(2), many()) {
		h := laid(t, kinds)
		for _, n := range append(far(), 0, -1, -2, -3, -4, len(kinds)+1, len(kinds)+2) {
			h.span(t, n)
		}
	}
}

// TestSpanOneRun: a run of each length at each place, and each number of pages up to one more than there are.
func TestSpanOneRun(t *testing.T) {
	for _, n := range []int{1, 2, 9, 33, most} {
		for first := range n {
			for length := 0; first+length <= n; length++ {
				kinds := alike(n, 2)
				clear(kinds[first : first+length])
				table := laid(t, kinds).table
				for _, span := range []int{1, length - 1, length, length + 1, n, n + 1} {
					(&held{table.Clone(), slices.Clone(kinds)}).span(t, span)
				}
			}
		}
	}
}

// TestSpanTwoRuns: the first run too short, just long enough, and longer; the second one likewise, between and at the very end.
func TestSpanTwoRuns(t *testing.T) {
	const n = 12
	for _, with := range []int{3, large} {
		for first := range n {
			for one := 1; first+one < n; one++ {
				for second := first + one + 1; second < n; second++ {
					for two := 1; second+two <= n; two++ {
						kinds := alike(n, with)
						clear(kinds[first : first+one])
						clear(kinds[second : second+two])
						table := laid(t, kinds).table
						for _, span := range []int{1, one, one + 1, two, two + 1, one + two} {
							(&held{table.Clone(), slices.Clone(kinds)}).span(t, span)
						}
					}
				}
			}
		}
	}
}

// TestSpanAtTheVeryEnd: of the greatest table: the only run that does is the last one, of each length, with shorter ones ahead.
func TestSpanAtTheVeryEnd(t *testing.T) {
	for length := 2; length < most; length++ {
		kinds := alike(most, 1)
		clear(kinds[most-length:])
		for end := most - length - 1; end > 0; end -= length {
			clear(kinds[max(0, end-length+1):end])
		}
		for _, n := range []int{length - 1, length, length + 1, 1} {
			laid(t, kinds).span(t, n)
		}
	}
}

// TestCountAndLongest: written out.
func TestCountAndLongest(t *testing.T) {
	for _, x := range []struct {
		kinds          []int
		count, longest int
	}{
		{nil, 0, 0},
		{alike(1, 0), 1, 1},
		{alike(1, 4), 0, 0},
		{alike(most, 0), 64, 64},
		{alike(most, 1), 0, 0},
		{alike(most, large), 0, 0},
		{alike(most, other), 0, 0},
		{[]int{0, 1, 0}, 2, 1},
		{[]int{0, 0, 1, 0}, 3, 2},
		{[]int{0, 5, 0, 0}, 3, 2},
		{[]int{1, 0, 0, 0, 2, 0, 0, 3}, 5, 3},
		{[]int{5, 6, 0, 0, 5, 0, 0, 0}, 5, 3},
		{[]int{0, 0, 5, 6, 6, 0, 0, 0, 4, 0, 0}, 7, 3},
	} {
		table := laid(t, x.kinds).table
		if count, longest := table.Count(), table.Longest(); count != x.count || longest != x.longest {
			t.Errorf("P9.1: of %v, Count() = %d, Longest() = %d; want %d, %d", x.kinds, count, longest, x.count, x.longest)
		}
	}
}

// TestAllApart: P2: what All told can be written on, behind its end too; neither the table nor what was told else changes.
func TestAllApart(t *testing.T) {
	for _, kinds := range slices.Concat(few(3), many()) {
		h := laid(t, kinds)
		one, two := h.table.All(), h.table.All()
		whole := one[:cap(one)]
		for i := range whole {
			whole[i] = 77
		}
		h.check(t, "what All told was written on")
		if !slices.Equal(two, kinds) {
			t.Fatalf("P2: two answers of All share memory: %v; want %v", two, kinds)
		}
		for p := range kinds {
			h.free(t, p)
		}
		h.span(t, 1)
		h.take(t, 2)
		if !slices.Equal(two, kinds) {
			t.Fatalf("P2: an answer of All changed with the table: %v; want %v", two, kinds)
		}
	}
}

// TestCloneApart: a clone, its clone and the table go on by themselves.
func TestCloneApart(t *testing.T) {
	for _, kinds := range slices.Concat(few(3), many()) {
		h := laid(t, kinds)
		c := &held{h.table.Clone(), slices.Clone(kinds)}
		if c.table == nil {
			t.Fatalf("P9.1: of %v, Clone() = nil", kinds)
		}
		d := &held{c.table.Clone(), slices.Clone(kinds)}
		all := c.table.All()
		c.check(t, "cloned")
		for p := range kinds {
			h.free(t, p)
			c.check(t, "the table was freed from")
		}
		h.span(t, len(kinds))
		h.check(t, "the table went on")
		c.check(t, "the table went on")
		for i := range all {
			all[i] = 77
		}
		for range kinds {
			c.take(t, 4)
		}
		h.check(t, "the clone went on")
		d.check(t, "the clone went on")
		for p := range kinds {
			d.free(t, p)
		}
		h.check(t, "the clone's clone went on")
		c.check(t, "the clone's clone went on")
	}
}

// TestCloneGoesOnByTurns: long scripts of two that were one.
func TestCloneGoesOnByTurns(t *testing.T) {
	for n := 0; n <= most; n += 8 {
		h := laid(t, alike(n, 0))
		r := rule(n)
		for range 100 {
			h.step(t, &r)
		}
		c := &held{h.table.Clone(), slices.Clone(h.kinds)}
		for range 200 {
			h.step(t, &r)
			c.check(t, "the table went on")
			c.step(t, &r)
			h.check(t, "the clone went on")
		}
	}
}

// TestNotMade: no table, and one that nobody made: nothing is told, and nothing to be had.
func TestNotMade(t *testing.T) {
	for _, table := range []*page.Table{nil, {}, new(page.Table), (*page.Table)(nil).Clone(), new(page.Table).Clone()} {
		for range 2 {
			checkTable(t, table, nil, "not made")
			checkFar(t, table, "not made")
			for _, n := range between(-2, most+2) {
				checkAsked(t, table, n, -1, 0, -1, "not made")
				if p, ok := table.Take(n); p != 0 || ok {
					t.Fatalf("P9.1: not made: Take(%d) = %d, %t; want 0, false", n, p, ok)
				}
				if p, ok := table.Span(n); p != 0 || ok {
					t.Fatalf("P9.1: not made: Span(%d) = %d, %t; want 0, false", n, p, ok)
				}
				if got := table.Free(n); got != 0 {
					t.Fatalf("P9.1: not made: Free(%d) = %d; want 0", n, got)
				}
			}
			if c := table.Clone(); c != nil {
				t.Fatalf("P9.1: not made: Clone() = %v; want nil", c)
			}
		}
	}
}

// TestNoPages: a table of none is made all the same: its clone is one too.
func TestNoPages(t *testing.T) {
	for _, n := range []int{0, -1, -64, least} {
		h := laid(t, nil)
		h.table = page.New(n)
		c := h.table.Clone()
		if c == nil || c.Clone() == nil {
			t.Fatalf("P9.1: of New(%d), Clone() = nil", n)
		}
		for _, x := range between(-2, 8) {
			h.take(t, x)
			h.span(t, x)
			h.free(t, x)
			checkTable(t, c, nil, "a clone of none")
		}
	}
}

// rule makes numbers one behind the other, always the same.
type rule uint64

func (r *rule) below(n int) int {
	*r = *r*6364136223846793005 + 1442695040888963407
	return int(uint64(*r)>>33) % n
}

// step does one thing, now and then one that can't be.
func (h *held) step(t *testing.T, r *rule) {
	t.Helper()
	switch n := len(h.kinds); r.below(8) {
	case 0, 1:
		h.take(t, r.below(smalls+2))
	case 2:
		h.span(t, r.below(n+2))
	case 3, 4:
		h.span(t, 1+r.below(5))
	default:
		h.free(t, r.below(n+2)-1)
	}
}

// span is the pages of one that has some.
type span struct{ kind, first, n int }

// spans are all that the table tells to begin somewhere.
func spans(table *page.Table) []span {
	var l []span
	for p := range most {
		if n := table.Size(p); n > 0 {
			l = append(l, span{table.Kind(p), p, n})
		}
	}
	return l
}

// checkSpans: P9.2: each large object's pages stand behind its first one, one after the other, and no page is of two, or of none that begins.
func checkSpans(t *testing.T, table *page.Table, pages int) {
	t.Helper()
	met := make([]bool, pages)
	for _, s := range spans(table) {
		for i := range s.n {
			p := s.first + i
			if p >= pages || met[p] {
				t.Fatalf("P9.2: page %d of %v is another one's, or none", p, s)
			}
			met[p] = true
			want := other
			if i == 0 {
				want = s.kind
			}
			if kind := table.Kind(p); kind != want || kind == 0 || table.First(p) != s.first {
				t.Fatalf("P9.2: page %d of %v: kind %d, first %d", p, s, kind, table.First(p))
			}
		}
	}
	for p, is := range met {
		if free := table.Kind(p) == 0; free == is {
			t.Fatalf("P9.2: page %d: kind %d, but of one that begins: %t", p, table.Kind(p), is)
		}
	}
}

// TestScripts: P9.2: long scripts of Take, Span and Free, step by step.
func TestScripts(t *testing.T) {
	for _, n := range []int{0, 1, 2, 3, 5, 8, 16, 33, 63, most} {
		for seed := range 3 {
			h := laid(t, alike(n, 0))
			r := rule(97*n + seed)
			// What a step takes is apart from all that was there ahead; what it frees was one of them, whole.
			full, larges := 0, 0
			was := spans(h.table)
			for range 3000 {
				h.step(t, &r)
				checkSpans(t, h.table, n)
				now := spans(h.table)
				if changed(was, now) > 1 {
					t.Fatalf("P9.2: one step changed more than one: %v became %v", was, now)
				}
				was = now
				if h.table.Count() == 0 {
					full++
				}
				larges += len(slices.DeleteFunc(slices.Clone(now), func(s span) bool { return s.n < 2 }))
			}
			if n >= 2 && (full < 30 || larges < 100) {
				t.Errorf("the script of %d pages was full %d times, with %d large objects: too seldom", n, full, larges)
			}
		}
	}
}

// changed is how many of the two are not in both.
func changed(was []span, now []span) int {
	n := 0
	for _, s := range was {
		if !slices.Contains(now, s) {
			n++
		}
	}
	for _, s := range now {
		if !slices.Contains(was, s) {
			n++
		}
	}
	return n
}

// TestNeighbours: P9.2: large objects of each length side by side; one goes, the others stay, and one that is as great takes its place.
func TestNeighbours(t *testing.T) {
	for length := 1; length <= most/3; length++ {
		for goes := range 3 {
			h := laid(t, alike(3*length, 0))
			for range 3 {
				h.span(t, length)
			}
			h.free(t, goes*length)
			checkSpans(t, h.table, 3*length)
			if n := len(spans(h.table)); n != 2 {
				t.Fatalf("P9.2: one of three objects of %d pages went, %d are left", length, n)
			}
			h.span(t, length+1)
			h.span(t, length)
			checkSpans(t, h.table, 3*length)
			if n := len(spans(h.table)); n != 3 || h.table.Size(goes*length) != length {
				t.Fatalf("P9.2: %d objects, and %d pages in the place of the one that went; want 3, and %d", n, h.table.Size(goes*length), length)
			}
		}
	}
}

// TestNothingElse: P3: the same calls on a table that is alike answer alike, whatever others are told between.
func TestNothingElse(t *testing.T) {
	for n := 0; n <= most; n += 9 {
		one, two := laid(t, alike(n, 0)), laid(t, alike(n, 0))
		a, b, c := rule(n), rule(n), rule(n+1)
		for range 500 {
			one.step(t, &a)
			laid(t, alike(3, 0)).step(t, &c)
			two.step(t, &b)
			if !slices.Equal(one.table.All(), two.table.All()) {
				t.Fatalf("P3: %v and %v", one.table.All(), two.table.All())
			}
			one.check(t, "asked again")
		}
	}
}
