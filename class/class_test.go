package class_test

import (
	"math"
	"testing"

	"scutage/class"
)

const (
	least      = math.MinInt64
	greatest   = math.MaxInt64
	pageWords  = 32
	mostFields = 127
	large      = 5
)

// sizes are the words of a cell of each small class, as the chapter writes them out; of no class at 0.
var sizes = []int{0, 2, 4, 8, 16}

// noFields are numbers that no object has as many fields as: next to the ends, such as are some object's when cut short or turned about, and as far out as can be.
var noFields = []int{-1, -2, -3, -15, -16, -17, -127, -128, -129, -255, -256,
	128, 129, 130, 143, 144, 159, 160, 255, 256, 257, 271, 512, 2047, 2048,
	1 << 31, 1<<31 - 1, 1 << 32, 1<<32 + 5, 1<<32 + 16, 1<<32 + 127, -1 << 31, -1 << 32, -1<<32 + 5, -1<<32 + 16,
	1 << 62, greatest, greatest - 1, greatest - 31, least, least + 1, least + 5, least + 16}

// noSmalls are numbers that no small class has: next to the ends, such as are a small one's when cut short or turned about, and as far out as can be.
var noSmalls = []int{0, 5, 6, 7, 8, 16, 31, 32, 33, 62, 63, 64, 65, 66, 68, 127, 128, 129, 132, 255, 256, 257,
	-1, -2, -3, -4, -5, -31, -32, -63, -64, -62, -252, -255, -256,
	1 << 31, 1<<31 - 1, 1 << 32, 1<<32 + 1, 1<<32 + 4, -1 << 31, -1 << 32, -1<<32 + 1,
	1 << 62, greatest, greatest - 1, least, least + 1, least + 2, least + 4}

// taken is what an object takes.
type taken struct {
	class int
	pages int
	waste int
}

// plain lays an object with n fields down, word by word: into a cell, if there is one that has room, and else into pages.
func plain(n int) taken {
	words := 1
	for range n {
		words++
	}
	for k := 1; k < len(sizes); k++ {
		if words <= sizes[k] {
			return taken{class: k, waste: sizes[k] - words}
		}
	}
	pages, room := 0, 0
	for range words {
		if room == 0 {
			pages++
			room = pageWords
		}
		room--
	}
	return taken{class: large, pages: pages, waste: room}
}

// check asks all that is told of a number of fields.
func check(t *testing.T, n int, want taken) {
	t.Helper()
	if got := class.Of(n); got != want.class {
		t.Errorf("P6.1: Of(%d) = %d; want %d", n, got, want.class)
	}
	if got := class.Pages(n); got != want.pages {
		t.Errorf("P6.1: Pages(%d) = %d; want %d", n, got, want.pages)
	}
	if got := class.Waste(n); got != want.waste {
		t.Errorf("P6.1: Waste(%d) = %d; want %d", n, got, want.waste)
	}
}

func TestEachNumberOfFields(t *testing.T) {
	for n := range mostFields + 1 {
		check(t, n, plain(n))
	}
}

// TestWrittenOut: places around which the class, or the pages, change, by the chapter alone.
func TestWrittenOut(t *testing.T) {
	for _, c := range []struct {
		n    int
		want taken
	}{
		{0, taken{class: 1, waste: 1}},
		{1, taken{class: 1}},
		{2, taken{class: 2, waste: 1}},
		{3, taken{class: 2}},
		{4, taken{class: 3, waste: 3}},
		{5, taken{class: 3, waste: 2}},
		{7, taken{class: 3}},
		{8, taken{class: 4, waste: 7}},
		{14, taken{class: 4, waste: 1}},
		{15, taken{class: 4}},
		{16, taken{class: 5, pages: 1, waste: 15}},
		{17, taken{class: 5, pages: 1, waste: 14}},
		{30, taken{class: 5, pages: 1, waste: 1}},
		{31, taken{class: 5, pages: 1}},
		{32, taken{class: 5, pages: 2, waste: 31}},
		{63, taken{class: 5, pages: 2}},
		{64, taken{class: 5, pages: 3, waste: 31}},
		{95, taken{class: 5, pages: 3}},
		{96, taken{class: 5, pages: 4, waste: 31}},
		{126, taken{class: 5, pages: 4, waste: 1}},
		{127, taken{class: 5, pages: 4}},
	} {
		check(t, c.n, c.want)
	}
}

func TestNoNumberOfFields(t *testing.T) {
	for _, n := range noFields {
		check(t, n, taken{})
	}
}

// TestAllAroundTheFields: farther beyond each end than any field, page or class is.
func TestAllAroundTheFields(t *testing.T) {
	for n := -3000; n <= 3000; n++ {
		want := taken{}
		if n >= 0 && n <= mostFields {
			want = plain(n)
		}
		check(t, n, want)
	}
}

// checkClass asks all that is told of a class.
func checkClass(t *testing.T, k int, size int, cells int) {
	t.Helper()
	if got := class.Size(k); got != size {
		t.Errorf("P6.1: Size(%d) = %d; want %d", k, got, size)
	}
	if got := class.Cells(k); got != cells {
		t.Errorf("P6.1: Cells(%d) = %d; want %d", k, got, cells)
	}
}

func TestEachClass(t *testing.T) {
	checkClass(t, 1, 2, 16)
	checkClass(t, 2, 4, 8)
	checkClass(t, 3, 8, 4)
	checkClass(t, 4, 16, 2)
	checkClass(t, 5, 0, 0)
	checkClass(t, 6, 0, 0)
	checkClass(t, 0, 0, 0)
	checkClass(t, -1, 0, 0)
}

func TestNoSmallClass(t *testing.T) {
	for _, k := range noSmalls {
		checkClass(t, k, 0, 0)
	}
	for k := 5; k <= 3000; k++ {
		checkClass(t, k, 0, 0)
		checkClass(t, 4-k, 0, 0)
	}
}

// TestRoom: P6.2: by what the calls tell of one another.
func TestRoom(t *testing.T) {
	for n := range mostFields + 1 {
		words := 1 + n
		k := class.Of(n)
		if k < 1 || k > large {
			t.Fatalf("P6.2: Of(%d) = %d; want a class", n, k)
		}
		room := class.Size(k)
		if k == large {
			room = pageWords * class.Pages(n)
		}
		if room < words {
			t.Errorf("P6.2: class %d has room for %d words; an object with %d fields has %d", k, room, n, words)
		}
		if got := class.Waste(n); got != room-words {
			t.Errorf("P6.2: Waste(%d) = %d; want %d of %d less %d", n, got, room-words, room, words)
		}
		for lesser := 1; lesser < k; lesser++ {
			if class.Size(lesser) >= words {
				t.Errorf("P6.2: Of(%d) = %d, but class %d has room for %d words", n, k, lesser, words)
			}
		}
		if k == large && room-pageWords >= words {
			t.Errorf("P6.2: Pages(%d) = %d; one less has room for %d words", n, class.Pages(n), words)
		}
		if k != large && class.Pages(n) != 0 {
			t.Errorf("P6.2: Pages(%d) = %d; an object of class %d takes none", n, class.Pages(n), k)
		}
	}
}

// TestCellsFillThePage: P6.2: no word of a page is left over, and greater cells are fewer.
func TestCellsFillThePage(t *testing.T) {
	for k := 1; k < large; k++ {
		if got := class.Cells(k) * class.Size(k); got != pageWords {
			t.Errorf("P6.2: the cells of class %d have %d words; want %d", k, got, pageWords)
		}
		if k > 1 && class.Size(k) <= class.Size(k-1) {
			t.Errorf("P6.2: the cells of class %d are not greater than those of class %d", k, k-1)
		}
	}
}

// TestNothingElse: P3: asked again, in another order, between wrong inputs, the answers are the same.
func TestNothingElse(t *testing.T) {
	for n := mostFields; n >= 0; n-- {
		bad := noFields[n%len(noFields)]
		check(t, n, plain(n))
		check(t, bad, taken{})
		check(t, n, plain(n))
		k := n%4 + 1
		checkClass(t, k, sizes[k], pageWords/sizes[k])
		checkClass(t, noSmalls[n%len(noSmalls)], 0, 0)
		checkClass(t, k, sizes[k], pageWords/sizes[k])
	}
}
