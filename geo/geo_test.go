package geo_test

import (
	"math"
	"testing"

	"scutage/geo"
)

const (
	least     = math.MinInt64
	greatest  = math.MaxInt64
	pageWords = 32
	pages     = 64
	addresses = 2048
	smalls    = 4
)

// sizes are the words of a cell of each small class, as the chapter ahead writes them out; of no class at 0.
var sizes = []int{0, 2, 4, 8, 16}

// far are numbers that no address, page, class, cell or number of pages has: such as are one when cut short, times 32 or turned about, and as far out as can be.
var far = []int{-1, -2, -3, -4, -16, -31, -32, -33, -63, -64, -65, -2047, -2048, -2049,
	4096, 1 << 16, 1<<31 - 1, 1 << 31, 1 << 32, 1<<32 + 1, 1<<32 + 3, 1<<32 + 33, -1 << 31, -1 << 32, -1<<32 + 1, -1<<32 + 3,
	1 << 57, 1 << 58, 1<<58 + 1, 1 << 59, 1<<59 + 1, 1<<59 + 3, 1<<60 + 1, 1<<61 + 1, 1 << 62, 1<<62 + 1, -1 << 58, -1 << 59, -1<<59 + 1, -1 << 62,
	greatest, greatest - 1, greatest - 31, greatest - 32, greatest - 63, greatest - 64, least, least + 1, least + 2, least + 31, least + 32, least + 63, least + 64}

// beyond are numbers next to each end of what may be, and far out.
func beyond(after int) []int {
	return append([]int{after, after + 1}, far...)
}

// notSmall are numbers that no small class has.
func notSmall() []int {
	return append([]int{0, 5, 6, 7, 8, 16, 31, 32, 33, 63, 64, 65, 66, 67, 68, 127, 128, 129, 257}, far...)
}

// place is a word's: in which page, how far in, and of each class in which cell and how far in there.
type place struct {
	page   int
	offset int
	cell   [smalls + 1]int
	inside [smalls + 1]int
}

// plain goes through all words one by one, and says of each where it is.
func plain() []place {
	var all []place
	for p := range pages {
		for o := range pageWords {
			w := place{page: p, offset: o}
			for k := 1; k <= smalls && o > 0; k++ {
				ahead := all[len(all)-1]
				w.cell[k], w.inside[k] = ahead.cell[k], ahead.inside[k]+1
				if w.inside[k] == sizes[k] {
					w.cell[k], w.inside[k] = w.cell[k]+1, 0
				}
			}
			all = append(all, w)
		}
	}
	return all
}

func checkPage(t *testing.T, a int, page int, offset int) {
	t.Helper()
	if got := geo.Page(a); got != page {
		t.Errorf("P7.1: Page(%d) = %d; want %d", a, got, page)
	}
	if got := geo.Offset(a); got != offset {
		t.Errorf("P7.1: Offset(%d) = %d; want %d", a, got, offset)
	}
}

func checkAt(t *testing.T, p int, k int, i int, want int, ok bool) {
	t.Helper()
	if got, is := geo.At(p, k, i); got != want || is != ok {
		t.Errorf("P7.1: At(%d, %d, %d) = %d, %t; want %d, %t", p, k, i, got, is, want, ok)
	}
}

func checkCell(t *testing.T, k int, a int, want int, ok bool, base int) {
	t.Helper()
	if got, is := geo.Cell(k, a); got != want || is != ok {
		t.Errorf("P7.1: Cell(%d, %d) = %d, %t; want %d, %t", k, a, got, is, want, ok)
	}
	if got := geo.Base(k, a); got != base {
		t.Errorf("P7.1: Base(%d, %d) = %d; want %d", k, a, got, base)
	}
}

func checkEnds(t *testing.T, p int, n int, first int, last int, ok bool) {
	t.Helper()
	if f, l, is := geo.Ends(p, n); f != first || l != last || is != ok {
		t.Errorf("P7.1: Ends(%d, %d) = %d, %d, %t; want %d, %d, %t", p, n, f, l, is, first, last, ok)
	}
}

func TestEachAddress(t *testing.T) {
	all := plain()
	if len(all) != addresses {
		t.Fatalf("%d words; want %d", len(all), addresses)
	}
	for a, w := range all {
		checkPage(t, a, w.page, w.offset)
	}
}

func TestNoAddress(t *testing.T) {
	for _, a := range beyond(addresses) {
		checkPage(t, a, -1, -1)
	}
	for d := range 3000 {
		checkPage(t, addresses+d, -1, -1)
		checkPage(t, -1-d, -1, -1)
	}
}

// TestWrittenOut: a few places, worked out by hand from the chapter.
func TestWrittenOut(t *testing.T) {
	checkPage(t, 0, 0, 0)
	checkPage(t, 31, 0, 31)
	checkPage(t, 32, 1, 0)
	checkPage(t, 2047, 63, 31)
	checkAt(t, 1, 3, 2, 48, true)
	checkAt(t, 0, 1, 0, 0, true)
	checkAt(t, 0, 1, 15, 30, true)
	checkAt(t, 63, 4, 1, 2032, true)
	checkAt(t, 1, 3, 4, 0, false)
	checkCell(t, 3, 48, 2, true, 48)
	checkCell(t, 3, 55, 0, false, 48)
	checkCell(t, 4, 63, 0, false, 48)
	checkCell(t, 1, 2046, 15, true, 2046)
	checkEnds(t, 62, 2, 1984, 2047, true)
	checkEnds(t, 0, 64, 0, 2047, true)
	checkEnds(t, 0, 1, 0, 31, true)
	checkEnds(t, 63, 2, 0, 0, false)
}

func TestEachCell(t *testing.T) {
	cells := 0
	for a, w := range plain() {
		for k := 1; k <= smalls; k++ {
			if w.inside[k] == 0 {
				checkAt(t, w.page, k, w.cell[k], a, true)
				checkCell(t, k, a, w.cell[k], true, a)
				cells++
				continue
			}
			checkCell(t, k, a, 0, false, a-w.inside[k])
		}
	}
	if want := pages * (16 + 8 + 4 + 2); cells != want {
		t.Errorf("%d cells were asked for; want %d", cells, want)
	}
}

// TestNoCell: each of the numbers that At is given may not be, one at a time.
func TestNoCell(t *testing.T) {
	for p := range pages {
		for k := 1; k <= smalls; k++ {
			cells := pageWords / sizes[k]
			for _, i := range beyond(cells) {
				checkAt(t, p, k, i, 0, false)
			}
			// As many as may be a cell of some other class.
			for i := cells; i <= 2*pageWords; i++ {
				checkAt(t, p, k, i, 0, false)
			}
		}
		for _, k := range notSmall() {
			for i := range pageWords {
				checkAt(t, p, k, i, 0, false)
			}
		}
	}
	for _, p := range beyond(pages) {
		for k := 1; k <= smalls; k++ {
			for i := range pageWords / sizes[k] {
				checkAt(t, p, k, i, 0, false)
			}
		}
	}
}

// TestNoCellAtAll: two or all of the numbers that At is given may not be: none makes up for another one.
func TestNoCellAtAll(t *testing.T) {
	for _, p := range append([]int{0, 1, 63}, beyond(pages)...) {
		badPage := p < 0 || p >= pages
		for _, k := range notSmall() {
			for _, i := range append([]int{0, 1}, beyond(pageWords)...) {
				checkAt(t, p, k, i, 0, false)
			}
		}
		for k := 1; k <= smalls; k++ {
			for _, i := range beyond(pageWords / sizes[k]) {
				checkAt(t, p, k, i, 0, false)
			}
			if badPage {
				checkAt(t, p, k, 0, 0, false)
			}
		}
	}
}

// TestNoCellHere: Cell and Base of what is no small class, or no address, or neither.
func TestNoCellHere(t *testing.T) {
	for _, k := range notSmall() {
		for a := range addresses {
			checkCell(t, k, a, 0, false, -1)
		}
		for _, a := range beyond(addresses) {
			checkCell(t, k, a, 0, false, -1)
		}
	}
	for k := 1; k <= smalls; k++ {
		for _, a := range beyond(addresses) {
			checkCell(t, k, a, 0, false, -1)
		}
		for d := range 3000 {
			checkCell(t, k, addresses+d, 0, false, -1)
			checkCell(t, k, -1-d, 0, false, -1)
		}
	}
}

func TestEnds(t *testing.T) {
	for p := range pages {
		first := 0
		for range p {
			first += pageWords
		}
		last := first - 1
		for n := 1; p+n <= pages; n++ {
			last += pageWords
			checkEnds(t, p, n, first, last, true)
		}
		checkEnds(t, p, 0, 0, 0, false)
		for n := pages - p + 1; n <= 3*pages; n++ {
			checkEnds(t, p, n, 0, 0, false)
		}
		for _, n := range beyond(pages + 1) {
			checkEnds(t, p, n, 0, 0, false)
		}
	}
}

// TestNoPages: no page to begin with; with each number of pages, and with such as make a sum that is one's when it wraps round.
func TestNoPages(t *testing.T) {
	for _, p := range beyond(pages) {
		for n := range pages + 2 {
			checkEnds(t, p, n, 0, 0, false)
		}
		for _, n := range beyond(pages + 1) {
			checkEnds(t, p, n, 0, 0, false)
		}
		// Counted from p back to 0 and on to the end, whatever that comes to.
		for d := range pages + 1 {
			checkEnds(t, p, d-p, 0, 0, false)
			checkEnds(t, p, least-p+d, 0, 0, false)
		}
	}
}

// TestThereAndBack: P7.2: by what the calls tell of one another.
func TestThereAndBack(t *testing.T) {
	for k := -1; k <= smalls+2; k++ {
		for p := -1; p <= pages; p++ {
			for i := -1; i <= pageWords; i++ {
				a, ok := geo.At(p, k, i)
				if !ok {
					continue
				}
				if got, is := geo.Cell(k, a); !is || got != i || geo.Page(a) != p {
					t.Errorf("P7.2: At(%d, %d, %d) = %d, but there cell %d, %t of page %d begins", p, k, i, a, got, is, geo.Page(a))
				}
			}
		}
		for a := -1; a <= addresses; a++ {
			i, ok := geo.Cell(k, a)
			if !ok {
				continue
			}
			if got, is := geo.At(geo.Page(a), k, i); !is || got != a {
				t.Errorf("P7.2: Cell(%d, %d) = %d, but At(%d, %d, %d) = %d, %t", k, a, i, geo.Page(a), k, i, got, is)
			}
		}
	}
}

// TestBaseIsWhereTheCellBegins: at a base a cell begins, and from there to a none other does.
func TestBaseIsWhereTheCellBegins(t *testing.T) {
	for k := 1; k <= smalls; k++ {
		for a := range addresses {
			b := geo.Base(k, a)
			if _, ok := geo.Cell(k, b); !ok || b > a || b <= a-sizes[k] {
				t.Errorf("P7.1: Base(%d, %d) = %d; no cell that has %d begins there", k, a, b, a)
			}
			for c := b + 1; c <= a; c++ {
				if _, ok := geo.Cell(k, c); ok {
					t.Errorf("P7.1: Base(%d, %d) = %d; a cell begins at %d", k, a, b, c)
				}
			}
		}
	}
}

// TestNothingElse: P3: asked again, between wrong inputs, the answers are the same.
func TestNothingElse(t *testing.T) {
	all := plain()
	for a := addresses - 1; a >= 0; a-- {
		w, k, bad := all[a], a%smalls+1, far[a%len(far)]
		for range 2 {
			checkPage(t, a, w.page, w.offset)
			checkCell(t, k, a-w.inside[k], w.cell[k], true, a-w.inside[k])
			checkAt(t, w.page, k, w.cell[k], a-w.inside[k], true)
			checkEnds(t, w.page, 1, a-w.offset, a-w.offset+pageWords-1, true)
			checkPage(t, bad, -1, -1)
			checkCell(t, k, bad, 0, false, -1)
			checkCell(t, bad, a, 0, false, -1)
			checkAt(t, w.page, k, bad, 0, false)
			checkEnds(t, w.page, bad, 0, 0, false)
		}
	}
}
