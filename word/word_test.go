package word_test

import (
	"math"
	"testing"

	"scutage/api"
	"scutage/word"
)

const (
	least    = math.MinInt64
	greatest = math.MaxInt64
)

// pair is a value that may be, and its word.
type pair struct {
	v api.Value
	w int64
}

// pairs are written out by the chapter: ordinary values of each kind, and the ends of each.
func pairs() []pair {
	return []pair{
		{api.Value{}, 0},
		// numbers
		{api.Value{Kind: 1, N: 0}, 1},
		{api.Value{Kind: 1, N: 1}, 3},
		{api.Value{Kind: 1, N: 2}, 5},
		{api.Value{Kind: 1, N: 77}, 155},
		{api.Value{Kind: 1, N: 2047}, 4095},
		{api.Value{Kind: 1, N: 2048}, 4097},
		{api.Value{Kind: 1, N: 1 << 32}, 1<<33 + 1},
		{api.Value{Kind: 1, N: 1<<40 - 2}, 1<<41 - 3},
		{api.Value{Kind: 1, N: 1<<40 - 1}, 1<<41 - 1},
		{api.Value{Kind: 1, N: -1}, -1},
		{api.Value{Kind: 1, N: -2}, -3},
		{api.Value{Kind: 1, N: -3}, -5},
		{api.Value{Kind: 1, N: -1 << 32}, -1<<33 + 1},
		{api.Value{Kind: 1, N: -1<<40 + 1}, -1<<41 + 3},
		{api.Value{Kind: 1, N: -1 << 40}, -1<<41 + 1},
		// references
		{api.Value{Kind: 2, N: 0}, 2},
		{api.Value{Kind: 2, N: 1}, 4},
		{api.Value{Kind: 2, N: 5}, 12},
		{api.Value{Kind: 2, N: 1023}, 2048},
		{api.Value{Kind: 2, N: 2046}, 4094},
		{api.Value{Kind: 2, N: 2047}, 4096},
	}
}

// wrong is a value that may not be, and the error that it is told by.
type wrong struct {
	v api.Value
	e api.Errno
}

func wrongs() []wrong {
	l := []wrong{
		// N is one step beyond what the kind may have, and further
		{api.Value{Kind: 1, N: 1 << 40}, api.ErrRange},
		{api.Value{Kind: 1, N: -1<<40 - 1}, api.ErrRange},
		{api.Value{Kind: 1, N: 1 << 41}, api.ErrRange},
		{api.Value{Kind: 1, N: 1 << 62}, api.ErrRange},
		{api.Value{Kind: 1, N: greatest}, api.ErrRange},
		{api.Value{Kind: 1, N: least}, api.ErrRange},
		{api.Value{Kind: 2, N: -1}, api.ErrRange},
		{api.Value{Kind: 2, N: 2048}, api.ErrRange},
		{api.Value{Kind: 2, N: 1 << 32}, api.ErrRange},
		{api.Value{Kind: 2, N: 1<<32 + 5}, api.ErrRange},
		{api.Value{Kind: 2, N: -1 << 32}, api.ErrRange},
		{api.Value{Kind: 2, N: greatest}, api.ErrRange},
		{api.Value{Kind: 2, N: least}, api.ErrRange},
		// nothing with something
		{api.Value{Kind: 0, N: 1}, api.ErrRange},
		{api.Value{Kind: 0, N: -1}, api.ErrRange},
		{api.Value{Kind: 0, N: 1 << 32}, api.ErrRange},
		{api.Value{Kind: 0, N: greatest}, api.ErrRange},
		{api.Value{Kind: 0, N: least}, api.ErrRange},
	}
	// No kind: told ahead of any N, right or wrong for whatever kind.
	for _, kind := range []int{-1, -2, 3, 4, 256, 257, 1 << 32, 1<<32 + 1, least, greatest} {
		for _, n := range []int64{0, 1, -1, 2047, 2048, 1<<40 - 1, 1 << 40, -1 << 40, -1<<40 - 1, least, greatest} {
			l = append(l, wrong{api.Value{Kind: kind, N: n}, api.ErrKind})
		}
	}
	return l
}

// noWords are numbers that are no value's word.
func noWords() []int64 {
	return []int64{
		// odd: beyond the greatest number's, below the least one's
		1<<41 + 1,
		1<<41 + 3,
		1<<42 + 1,
		-1<<41 - 1,
		-1<<41 - 3,
		greatest,
		greatest - 2,
		least + 1,
		least + 3,
		// even: beyond the greatest address's, below that of 0
		4098,
		4100,
		8192,
		-2,
		-4,
		-4096,
		1 << 32,
		1<<32 + 2,
		1<<32 + 12,
		1 << 41,
		-1 << 41,
		1 << 62,
		greatest - 1,
		least,
		least + 2,
	}
}

func checkWordOf(t *testing.T, v api.Value, want int64) {
	t.Helper()
	if e := word.Check(v); e != api.OK {
		t.Errorf("P3.1: Check(%+v) = %d; want %d", v, e, api.OK)
	}
	if got, ok := word.Put(v); got != want || !ok {
		t.Errorf("P3.1: Put(%+v) = %d, %v; want %d, true", v, got, ok, want)
	}
	if got, ok := word.Read(want); got != v || !ok {
		t.Errorf("P3.1: Read(%d) = %+v, %v; want %+v, true", want, got, ok, v)
	}
	a, led := 0, v.Kind == api.Reference
	if led {
		a = int(v.N)
	}
	if got, ok := word.Address(want); got != a || ok != led {
		t.Errorf("P3.1: Address(%d) = %d, %v; want %d, %v", want, got, ok, a, led)
	}
}

func checkNoWord(t *testing.T, w int64) {
	t.Helper()
	if got, ok := word.Read(w); got != (api.Value{}) || ok {
		t.Errorf("P3.1: Read(%d) = %+v, %v; want the zero value, false", w, got, ok)
	}
	if got, ok := word.Address(w); got != 0 || ok {
		t.Errorf("P3.1: Address(%d) = %d, %v; want 0, false", w, got, ok)
	}
}

func TestValuesThatMayBe(t *testing.T) {
	for _, p := range pairs() {
		checkWordOf(t, p.v, p.w)
	}
}

func TestValuesThatMayNotBe(t *testing.T) {
	for _, c := range wrongs() {
		if e := word.Check(c.v); e != c.e {
			t.Errorf("P3.1: Check(%+v) = %d; want %d", c.v, e, c.e)
		}
		if w, ok := word.Put(c.v); w != 0 || ok {
			t.Errorf("P3.1: Put(%+v) = %d, %v; want 0, false", c.v, w, ok)
		}
	}
}

func TestNoWords(t *testing.T) {
	for _, w := range noWords() {
		checkNoWord(t, w)
	}
}

func TestNumber(t *testing.T) {
	for _, n := range []int64{0, 1, -1, 42, -42, 2048, 1 << 32, 1<<40 - 1, -1<<40 + 1, -1 << 40} {
		want := api.Value{Kind: 1, N: n}
		if got := word.Number(n); got != want {
			t.Errorf("P3.1: Number(%d) = %+v; want %+v", n, got, want)
		}
	}
	for _, n := range []int64{1 << 40, 1<<40 + 1, -1<<40 - 1, 1 << 62, greatest, least} {
		if got := word.Number(n); got != (api.Value{}) {
			t.Errorf("P3.1: Number(%d) = %+v; want nothing", n, got)
		}
	}
}

func TestReference(t *testing.T) {
	for a := range 2048 {
		want := api.Value{Kind: 2, N: int64(a)}
		if got := word.Reference(a); got != want {
			t.Errorf("P3.1: Reference(%d) = %+v; want %+v", a, got, want)
		}
	}
	for _, a := range []int{-1, -2, 2048, 2049, 4096, 1 << 32, 1<<32 + 5, -1 << 32, greatest, least} {
		if got := word.Reference(a); got != (api.Value{}) {
			t.Errorf("P3.1: Reference(%d) = %+v; want nothing", a, got)
		}
	}
}

// TestAddress: of the words of all kinds; each address has its own.
func TestAddress(t *testing.T) {
	for a := range 2048 {
		if got, ok := word.Address(int64(2*a + 2)); got != a || !ok {
			t.Errorf("P3.1: Address(%d) = %d, %v; want %d, true", 2*a+2, got, ok, a)
		}
	}
	for _, w := range []int64{0, 1, 3, -1, 4095, 4097, 1<<41 - 1, -1<<41 + 1} {
		if got, ok := word.Address(w); got != 0 || ok {
			t.Errorf("P3.1: Address(%d) = %d, %v; want 0, false", w, got, ok)
		}
	}
}

// numbers are many from the span of numbers, and all around its ends, around 0, and around the ends of addresses.
func numbers() []int64 {
	var l []int64
	for _, n := range []int64{0, 2048, -2048, 1 << 31, -1 << 31, 1 << 32, -1 << 32, 1 << 39, -1 << 39} {
		for d := int64(-300); d <= 300; d++ {
			l = append(l, n+d)
		}
	}
	for d := range int64(300) {
		l = append(l, 1<<40-1-d, -1<<40+d)
	}
	// A rule, not chance: strides that go through the whole span.
	for n := int64(-1 << 40); n < 1<<40; n += 123456789 {
		l = append(l, n)
	}
	return l
}

// values are all references, nothing, and numbers.
func values() []api.Value {
	l := []api.Value{{}}
	for a := range int64(2048) {
		l = append(l, api.Value{Kind: 2, N: a})
	}
	for _, n := range numbers() {
		l = append(l, api.Value{Kind: 1, N: n})
	}
	return l
}

func TestValuesComeBack(t *testing.T) {
	for _, v := range values() {
		w, ok := word.Put(v)
		if !ok {
			t.Fatalf("P3.2: %+v has no word", v)
		}
		if back, ok := word.Read(w); back != v || !ok {
			t.Fatalf("P3.2: %+v came back as %+v, %v from its word %d", v, back, ok, w)
		}
	}
}

func TestNoTwoHaveOneWord(t *testing.T) {
	whose := map[int64]api.Value{}
	for _, v := range values() {
		w, ok := word.Put(v)
		if !ok {
			t.Fatalf("P3.2: %+v has no word", v)
		}
		if other, met := whose[w]; met && other != v {
			t.Fatalf("P3.2: %+v and %+v have one word, %d", other, v, w)
		}
		whose[w] = v
	}
}

// words are all around each place where words begin or end to be some kind's.
func words() []int64 {
	var l []int64
	for _, w := range []int64{0, 1 << 41, -1 << 41, 1 << 32, -1 << 32, 1 << 40, -1 << 40} {
		for d := int64(-5000); d <= 5000; d++ {
			l = append(l, w+d)
		}
	}
	for d := range int64(5000) {
		l = append(l, least+d, greatest-d)
	}
	return l
}

// isWord: by the chapter alone.
func isWord(w int64) bool {
	if w%2 == 0 {
		return w >= 0 && w <= 4096
	}
	return w >= -1<<41+1 && w <= 1<<41-1
}

func TestWordsComeBack(t *testing.T) {
	read := 0
	for _, w := range words() {
		if !isWord(w) {
			checkNoWord(t, w)
			continue
		}
		read++
		v, ok := word.Read(w)
		if !ok || word.Check(v) != api.OK {
			t.Fatalf("P3.1: Read(%d) = %+v, %v; want a value that may be", w, v, ok)
		}
		if back, ok := word.Put(v); back != w || !ok {
			t.Fatalf("P3.2: word %d came back as %d, %v from its value %+v", w, back, ok, v)
		}
		checkWordOf(t, v, w)
	}
	if read < 10000 {
		t.Fatalf("P3.2: only %d words were read", read)
	}
}

// TestNothingElse: P3: asked again, in another order, between wrong inputs, the answers are the same.
func TestNothingElse(t *testing.T) {
	l := pairs()
	for i := range l {
		p := l[len(l)-1-i]
		checkNoWord(t, least)
		checkWordOf(t, p.v, p.w)
		if w, ok := word.Put(api.Value{Kind: 3, N: p.v.N}); w != 0 || ok {
			t.Errorf("P3.1: Put of kind 3 = %d, %v; want 0, false", w, ok)
		}
		checkWordOf(t, p.v, p.w)
	}
}
