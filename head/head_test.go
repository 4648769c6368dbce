package head_test

import (
	"math"
	"testing"

	"scutage/head"
	"scutage/mem"
)

const (
	least     = math.MinInt64
	greatest  = math.MaxInt64
	mostWords = 2048
	mostField = 127
	topSerial = 1<<40 - 1
	topWord   = 1<<47 - 1
)

// serials are such as may be: next to each end, and where a part of the word is full.
var serials = []int64{0, 1, 2, 3, 126, 127, 128, 129, 1<<31 - 1, 1 << 31, 1<<32 - 1, 1 << 32, 1<<33 + 5, 1<<39 - 1, 1 << 39, 123456789012, topSerial - 1, topSerial}

// badSerials are such as may not be: among them such as are one when cut short, or are a word that may be when 128 times they wrap round.
var badSerials = []int64{-1, -2, -127, -128, -129, -1 << 31, -1 << 32, -1<<32 + 1, -topSerial, -1 << 40, 1 << 40, 1<<40 + 1, 1 << 41, 1 << 47, 1<<47 - 1,
	1 << 56, 1 << 57, 1<<57 + 1, 1 << 58, 1<<58 + 7, -1 << 57, -1<<57 + 1, -1 << 58, 1<<62 + 3, greatest, greatest - 1, greatest - 127, least, least + 1, least + 128}

// badCounts are numbers of fields that may not be: next to each end, such as are one when cut short, and as far out as can be.
var badCounts = []int{-1, -2, -3, -127, -128, -129, 128, 129, 130, 255, 256, 257, 1000, mostWords, 1<<31 - 1, 1 << 31, 1 << 32, 1<<32 + 1, -1 << 31, -1 << 32, -1<<32 + 1,
	1 << 40, 1 << 47, 1 << 62, -1 << 62, greatest, greatest - 1, greatest - 127, greatest - mostWords, least, least + 1, least + 127, least + mostWords}

// noWords are words that are no object's first one.
var noWords = []int64{-1, -2, -127, -128, -129, -256, -1 << 40, -1 << 47, -topWord, 1 << 47, 1<<47 + 1, 1<<47 + 127, 1<<47 + 128, 1 << 48, 1 << 55, 1 << 62, greatest, greatest - 1, greatest - 127, least, least + 1, least + 127, least + 128}

// counts are all numbers of fields that may be.
func counts() []int {
	var l []int
	for n := 0; n <= mostField; n++ {
		l = append(l, n)
	}
	return l
}

// word is the chapter's, of numbers that may be.
func word(serial int64, n int) int64 {
	return serial<<7 | int64(n)
}

// beyond are addresses at which size words have none: next to each end, and such as a sum or a difference with a number of fields, of words or of one wraps round to one.
func beyond(size int) []int {
	l := []int{mostWords, mostWords + 1, 1 << 16, 1 << 31, 1 << 32, 1<<32 + 1, -1 << 31, -1 << 32, -1<<32 + 1, 1 << 62, -1 << 62, -size, -size - 1}
	for d := range mostField + 4 {
		l = append(l, -1-d, size+d, greatest-d, least+d, greatest-size+1+d, least+size+d)
	}
	return l
}

// there tells, word by word, so that no sum can be too great, whether all words of an object with n fields at a are there, of size.
func there(size int, a int, n int) bool {
	if a < 0 || a >= size {
		return false
	}
	for range n {
		a++
		if a >= size {
			return false
		}
	}
	return true
}

// unlike are n words that are all unlike, and no object's first one.
func unlike(n int) []int64 {
	l := make([]int64, n)
	for a := range l {
		l[a] = int64(-1-a) * 3000000007
	}
	return l
}

// having has these words.
func having(t *testing.T, words []int64) *mem.Mem {
	t.Helper()
	m := mem.New(len(words))
	for a, w := range words {
		if !m.Store(a, w) {
			t.Fatalf("of %d words, Store(%d, %d) = false", len(words), a, w)
		}
	}
	return m
}

// notMade are words that nobody made.
func notMade() map[string]*mem.Mem {
	return map[string]*mem.Mem{
		"nil":            nil,
		"an empty one":   {},
		"a clone of nil": (*mem.Mem)(nil).Clone(),
	}
}

func checkWords(t *testing.T, m *mem.Mem, want []int64, when string) {
	t.Helper()
	got := m.All()
	if len(got) != len(want) {
		t.Fatalf("P10.1: %s: %d words; want %d", when, len(got), len(want))
	}
	for a, w := range want {
		if got[a] != w {
			t.Fatalf("P10.1: %s: word %d is %d; want %d", when, a, got[a], w)
		}
	}
}

func checkMake(t *testing.T, serial int64, n int, want int64, ok bool) {
	t.Helper()
	if got, is := head.Make(serial, n); got != want || is != ok {
		t.Errorf("P10.1: Make(%d, %d) = %d, %t; want %d, %t", serial, n, got, is, want, ok)
	}
}

func checkSplit(t *testing.T, w int64, serial int64, n int, ok bool) {
	t.Helper()
	if s, c, is := head.Split(w); s != serial || c != n || is != ok {
		t.Errorf("P10.1: Split(%d) = %d, %d, %t; want %d, %d, %t", w, s, c, is, serial, n, ok)
	}
}

// checkRead holds Read against what it is to tell; that it writes nothing its callers hold against all words.
func checkRead(t *testing.T, m *mem.Mem, a int, serial int64, n int, ok bool) {
	t.Helper()
	if s, c, is := head.Read(m, a); s != serial || c != n || is != ok {
		t.Fatalf("P10.1: of %d words, Read(%d) = %d, %d, %t; want %d, %d, %t", m.Len(), a, s, c, is, serial, n, ok)
	}
}

func checkField(t *testing.T, m *mem.Mem, a int, i int, want int, ok bool) {
	t.Helper()
	if got, is := head.Field(m, a, i); got != want || is != ok {
		t.Fatalf("P10.1: of %d words, Field(%d, %d) = %d, %t; want %d, %t", m.Len(), a, i, got, is, want, ok)
	}
}

// checkFields asks for each field of an object with n fields at a, and for such as it has not.
func checkFields(t *testing.T, m *mem.Mem, a int, n int) {
	t.Helper()
	at := a
	for i := range n {
		at++
		checkField(t, m, a, i, at, true)
	}
	for i := n; i <= mostField+2; i++ {
		checkField(t, m, a, i, 0, false)
	}
	for _, i := range noFields(a, n) {
		checkField(t, m, a, i, 0, false)
	}
}

// noFields are such as no object with n fields at a has: next to each end, and such as a sum with the address wraps round to one.
func noFields(a int, n int) []int {
	return []int{-1, -2, -n, -n - 1, -a - 1, -a - 2, n, n + 1, 256, 1 << 31, 1 << 32, 1<<32 + 1, -1 << 32, -1<<32 + 1,
		greatest, greatest - 1, greatest - a, greatest - a - 1, greatest - n, least, least + 1, least + a, least + n, least - a + n, least - a - 1 + n}
}

// checkNone: at a Read tells nothing, and no field is there.
func checkNone(t *testing.T, m *mem.Mem, a int) {
	t.Helper()
	checkRead(t, m, a, 0, 0, false)
	for _, i := range []int{0, 1, 2, mostField - 1, mostField, 128, -1, greatest, least} {
		checkField(t, m, a, i, 0, false)
	}
}

// checkPut holds a call, of numbers that may be, against the words one by one; was are m's words ahead, and are left as they are behind it.
func checkPut(t *testing.T, m *mem.Mem, was []int64, a int, serial int64, n int) {
	t.Helper()
	ok := there(len(was), a, n)
	if got := head.Put(m, a, serial, n); got != ok {
		t.Fatalf("P10.1: of %d words, Put(%d, %d, %d) = %t; want %t", len(was), a, serial, n, got, ok)
	}
	if ok {
		was[a] = word(serial, n)
		checkRead(t, m, a, serial, n, true)
		checkFields(t, m, a, n)
	}
	checkWords(t, m, was, "behind Put")
}

// checkRefused: Put answers false, and writes nothing.
func checkRefused(t *testing.T, m *mem.Mem, was []int64, a int, serial int64, n int) {
	t.Helper()
	if head.Put(m, a, serial, n) {
		t.Fatalf("P10.1: of %d words, Put(%d, %d, %d) = true; want false", len(was), a, serial, n)
	}
	checkWords(t, m, was, "behind Put that was refused")
}

// TestWrittenOut: a few words, worked out by hand from the chapter.
func TestWrittenOut(t *testing.T) {
	for _, x := range []struct {
		serial int64
		n      int
		w      int64
	}{
		{0, 0, 0},
		{0, 1, 1},
		{0, 127, 127},
		{1, 0, 128},
		{1, 2, 130},
		{1, 127, 255},
		{2, 0, 256},
		{9, 3, 1155},
		{1000, 15, 128015},
		{1099511627775, 0, 140737488355200},
		{1099511627775, 127, 140737488355327},
	} {
		checkMake(t, x.serial, x.n, x.w, true)
		checkSplit(t, x.w, x.serial, x.n, true)
	}
}

// TestMake: from the least to the greatest that may be; each word comes back.
func TestMake(t *testing.T) {
	for _, serial := range serials {
		for _, n := range counts() {
			checkMake(t, serial, n, word(serial, n), true)
			checkSplit(t, word(serial, n), serial, n, true)
		}
	}
}

// TestMakeRefuses: a serial that may not be, a number of fields that may not be, both.
func TestMakeRefuses(t *testing.T) {
	for _, serial := range badSerials {
		for _, n := range append(counts(), badCounts...) {
			checkMake(t, serial, n, 0, false)
		}
	}
	for _, serial := range serials {
		for _, n := range badCounts {
			checkMake(t, serial, n, 0, false)
		}
	}
}

// TestMakeMakesUpForNothing: two numbers of which one may not be, though the word that would come out may be.
func TestMakeMakesUpForNothing(t *testing.T) {
	for _, x := range []struct {
		serial int64
		n      int
	}{
		{0, 128}, {0, 256}, {1, -1}, {1, -128}, {2, -256}, {-1, 128}, {-1, 130}, {-1, 255}, {-2, 256},
		{topSerial, -1}, {topSerial, -128}, {1 << 40, -1}, {1 << 40, -128}, {1<<40 + 1, -256}, {0, topWord}, {-1, topWord}, {1, topWord - 128},
		{greatest, least}, {least, greatest}, {greatest, greatest}, {least, least},
	} {
		checkMake(t, x.serial, x.n, 0, false)
	}
}

// TestEachWord: counted up from 0: behind the greatest number of fields comes the next serial.
func TestEachWord(t *testing.T) {
	serial, n := int64(0), 0
	for w := range int64(100000) {
		checkSplit(t, w, serial, n, true)
		checkMake(t, serial, n, w, true)
		if n++; n > mostField {
			serial, n = serial+1, 0
		}
	}
}

// TestSplitAtTheEnds: the greatest words that may be, one by one, and those above and below.
func TestSplitAtTheEnds(t *testing.T) {
	for d := range 2000 {
		w := int64(topWord - d)
		checkSplit(t, w, topSerial-int64(d/128), mostField-d%128, true)
		checkSplit(t, topWord+1+int64(d), 0, 0, false)
		checkSplit(t, -1-int64(d), 0, 0, false)
		checkSplit(t, greatest-int64(d), 0, 0, false)
		checkSplit(t, least+int64(d), 0, 0, false)
	}
	for _, w := range noWords {
		checkSplit(t, w, 0, 0, false)
	}
}

// TestPutEverywhere: at each address of few words, of each number of fields, over words that were all something else.
func TestPutEverywhere(t *testing.T) {
	for _, size := range []int{0, 1, 2, 3, 5, 16, 127, 128, 129, 160} {
		for _, n := range counts() {
			if size > 5 && n > 3 && n < mostField-2 && n%16 < 14 {
				continue
			}
			for a := -3; a <= size+3; a++ {
				was := unlike(size)
				checkPut(t, having(t, was), was, a, serials[(n+a+3)%len(serials)], n)
			}
		}
	}
}

// TestPutOfMany: at each address of as many words as there may be; one behind the other, over what was put ahead.
func TestPutOfMany(t *testing.T) {
	was := unlike(mostWords)
	m := having(t, was)
	for a := -3; a <= mostWords+3; a++ {
		for _, n := range []int{mostField, 3, 0} {
			checkPut(t, m, was, a, serials[(a+3)%len(serials)], n)
		}
	}
}

// TestPutAtTheEnd: the last word is right at the end of the words, one beyond it, and far beyond it.
func TestPutAtTheEnd(t *testing.T) {
	for _, size := range []int{1, 32, 128, 129, mostWords} {
		was := unlike(size)
		m := having(t, was)
		for _, n := range counts() {
			for d := -2; d <= mostField+2; d++ {
				checkPut(t, m, was, size-1-n+d, int64(n), n)
			}
		}
	}
}

// TestPutBeyond: no address, whatever sum with it wraps round.
func TestPutBeyond(t *testing.T) {
	for _, size := range []int{0, 1, 5, 128, mostWords} {
		was := unlike(size)
		m := having(t, was)
		for _, a := range beyond(size) {
			for _, n := range []int{0, 1, 2, 15, 126, mostField} {
				checkRefused(t, m, was, a, 7, n)
			}
			checkNone(t, m, a)
		}
		checkWords(t, m, was, "behind Read and Field beyond")
	}
}

// TestPutRefuses: numbers that may not be, the one or the other or both, at addresses that are there and that are not; no word is 0 ahead, so that a 0 that is written would show.
func TestPutRefuses(t *testing.T) {
	for _, size := range []int{0, 1, 5, 300} {
		was := make([]int64, size)
		for a := range was {
			was[a] = word(int64(a+1), 0)
		}
		m := having(t, was)
		for _, a := range []int{0, 1, 4, size - 1, size - 2, size / 2, size, size + 1, -1, -128, greatest, greatest - 127, least, least + 1} {
			for _, serial := range badSerials {
				for _, n := range append([]int{0, 1, 3, mostField}, badCounts...) {
					checkRefused(t, m, was, a, serial, n)
				}
			}
			for _, n := range append(badCounts, size, size-1-a, -a, -a-1, least-a, greatest-a) {
				if n < 0 || n > mostField {
					checkRefused(t, m, was, a, 1, n)
					checkRefused(t, m, was, a, 0, n)
					checkRefused(t, m, was, a, topSerial, n)
				}
			}
		}
	}
}

// TestPutOver: an object over another one, over one's fields, and over itself: the last one counts, and the fields are as they were.
func TestPutOver(t *testing.T) {
	was := unlike(20)
	m := having(t, was)
	checkPut(t, m, was, 4, 9, 3)
	checkPut(t, m, was, 4, 9, 3)
	checkPut(t, m, was, 4, topSerial, 15)
	checkPut(t, m, was, 4, topSerial, 16)
	checkPut(t, m, was, 7, 0, 0)
	checkPut(t, m, was, 6, 1, 2)
	checkRead(t, m, 4, topSerial, 15, true)
	checkFields(t, m, 4, 15)
	checkRead(t, m, 7, 0, 0, true)
	checkRead(t, m, 6, 1, 2, true)
	checkFields(t, m, 6, 2)
	checkNone(t, m, 5)
	checkPut(t, m, was, 0, 0, 0)
	checkPut(t, m, was, 0, 2, 19)
	checkPut(t, m, was, 0, 3, 20)
	checkRead(t, m, 0, 2, 19, true)
	checkPut(t, m, was, 19, 5, 0)
	checkPut(t, m, was, 19, 5, 1)
}

// TestReadByHand: first words written by hand at each address, of each number of fields; where it tells more than there are words, it is none.
func TestReadByHand(t *testing.T) {
	for _, size := range []int{1, 2, 5, 127, 128, 129, 200} {
		m := mem.New(size)
		was := m.All()
		for _, n := range counts() {
			for a := -2; a <= size+2; a++ {
				serial := serials[(a+2+n)%len(serials)]
				if m.Store(a, word(serial, n)) {
					was[a] = word(serial, n)
				}
				if !there(size, a, n) {
					checkNone(t, m, a)
					continue
				}
				checkRead(t, m, a, serial, n, true)
				checkFields(t, m, a, n)
			}
			checkWords(t, m, was, "behind Read and Field")
		}
	}
}

// TestReadOfNoWord: words that are no first word, at each address.
func TestReadOfNoWord(t *testing.T) {
	for _, size := range []int{1, 2, 128, 300, mostWords} {
		for j, w := range noWords {
			was := unlike(size)
			for a := range was {
				was[a] = noWords[(a+j)%len(noWords)]
			}
			was[size/2] = w
			m := having(t, was)
			for a := -3; a < size+3; a++ {
				checkNone(t, m, a)
			}
			checkWords(t, m, was, "behind Read and Field")
		}
	}
}

// TestReadOfNoughts: a word that is 0 is a first word: of serial 0, without a field.
func TestReadOfNoughts(t *testing.T) {
	for _, size := range []int{0, 1, 32, mostWords} {
		m := mem.New(size)
		for a := range size {
			checkRead(t, m, a, 0, 0, true)
			checkFields(t, m, a, 0)
		}
		for _, a := range beyond(size) {
			checkNone(t, m, a)
		}
		checkWords(t, m, make([]int64, size), "behind Read and Field")
	}
}

// TestFieldsAtTheEnds: objects that end with the words, and such as begin with them.
func TestFieldsAtTheEnds(t *testing.T) {
	was := unlike(mostWords)
	m := having(t, was)
	for _, n := range counts() {
		for _, a := range []int{0, 1, mostWords - 2 - n, mostWords - 1 - n} {
			if a < 0 || !there(mostWords, a, n) {
				continue
			}
			checkPut(t, m, was, a, int64(n), n)
			checkFields(t, m, a, n)
		}
	}
	checkWords(t, m, was, "behind Field")
}

// TestNotMade: words that nobody made have no object, and none is put there.
func TestNotMade(t *testing.T) {
	addresses := append([]int{0, 1, 2, 127, 128, 2047}, beyond(0)...)
	for name, m := range notMade() {
		for range 2 {
			for _, a := range addresses {
				for _, n := range append([]int{0, 1, mostField}, badCounts...) {
					if head.Put(m, a, 1, n) || head.Put(m, a, 0, n) || head.Put(m, a, -1, n) {
						t.Errorf("P10.1: %s: Put at %d with %d fields is true", name, a, n)
					}
				}
				checkNone(t, m, a)
			}
			if m.Len() != 0 {
				t.Errorf("P10.1: %s: %d words", name, m.Len())
			}
		}
	}
}

// TestNothingElse: P3: asked again, between calls that are granted and refused on other words, the answers are the same.
func TestNothingElse(t *testing.T) {
	was := unlike(300)
	m, other := having(t, was), mem.New(300)
	for j, serial := range serials {
		n, a := j*53%128, j*29%170
		checkPut(t, m, was, a, serial, n)
		for range 2 {
			head.Put(other, j, serial, n)
			head.Put(other, -1, serial, n)
			head.Field(other, j, n)
			checkMake(t, -1, n, 0, false)
			checkMake(t, serial, n, word(serial, n), true)
			checkSplit(t, -1, 0, 0, false)
			checkSplit(t, word(serial, n), serial, n, true)
			checkRead(t, m, a, serial, n, true)
			checkNone(t, m, -1)
			checkFields(t, m, a, n)
		}
		checkWords(t, m, was, "between other calls")
	}
}
