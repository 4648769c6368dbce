package calc_test

import (
	"math"
	"math/big"
	"slices"
	"testing"

	"scutage/calc"
)

const (
	least    = math.MinInt64
	greatest = math.MaxInt64
	half     = 1 << 62
	root     = 3037000499 // the greatest number whose square is an int
)

// pair is a call with two numbers, and what it must answer.
type pair struct {
	a, b int
	want int
	ok   bool
}

func checkPairs(t *testing.T, name string, call func(int, int) (int, bool), l []pair) {
	t.Helper()
	for _, c := range l {
		if got, ok := call(c.a, c.b); got != c.want || ok != c.ok {
			t.Errorf("P1.1: %s(%d, %d) = %d, %v; want %d, %v", name, c.a, c.b, got, ok, c.want, c.ok)
		}
	}
}

func TestIntHas64Bits(t *testing.T) {
	if math.MaxInt != greatest || math.MinInt != least {
		t.Fatal("P1.1: an int has not 64 bits")
	}
}

func TestAdd(t *testing.T) {
	checkPairs(t, "Add", calc.Add, []pair{
		{0, 0, 0, true},
		{2, 3, 5, true},
		{-2, -3, -5, true},
		{7, -9, -2, true},
		{-7, 9, 2, true},
		{greatest, 0, greatest, true},
		{0, greatest, greatest, true},
		{least, 0, least, true},
		{0, least, least, true},
		{greatest, least, -1, true},
		{least, greatest, -1, true},
		// just one
		{greatest - 1, 1, greatest, true},
		{1, greatest - 1, greatest, true},
		{half, half - 1, greatest, true},
		{least + 1, -1, least, true},
		{-1, least + 1, least, true},
		{-half, -half, least, true},
		// just none
		{greatest, 1, 0, false},
		{1, greatest, 0, false},
		{half, half, 0, false},
		{least, -1, 0, false},
		{-1, least, 0, false},
		{-half, -half - 1, 0, false},
		// as far out as can be
		{greatest, greatest, 0, false},
		{least, least, 0, false},
	})
}

func TestSub(t *testing.T) {
	checkPairs(t, "Sub", calc.Sub, []pair{
		{0, 0, 0, true},
		{5, 3, 2, true},
		{3, 5, -2, true},
		{-2, -5, 3, true},
		{-2, 5, -7, true},
		{greatest, greatest, 0, true},
		{least, least, 0, true},
		{greatest, 0, greatest, true},
		{least, 0, least, true},
		{0, greatest, -greatest, true},
		// just one
		{greatest - 1, -1, greatest, true},
		{-1, least, greatest, true},
		{half - 1, -half, greatest, true},
		{least + 1, 1, least, true},
		{-1, greatest, least, true},
		{-half, half, least, true},
		// just none
		{greatest, -1, 0, false},
		{0, least, 0, false},
		{half, -half, 0, false},
		{least, 1, 0, false},
		{-2, greatest, 0, false},
		{-half - 1, half, 0, false},
		// as far out as can be
		{greatest, least, 0, false},
		{least, greatest, 0, false},
	})
}

func TestMul(t *testing.T) {
	checkPairs(t, "Mul", calc.Mul, []pair{
		{0, 0, 0, true},
		{6, 7, 42, true},
		{-6, 7, -42, true},
		{6, -7, -42, true},
		{-6, -7, 42, true},
		{0, least, 0, true},
		{least, 0, 0, true},
		{0, greatest, 0, true},
		{greatest, 0, 0, true},
		{1, greatest, greatest, true},
		{greatest, 1, greatest, true},
		{1, least, least, true},
		{least, 1, least, true},
		{greatest, -1, -greatest, true},
		{-1, greatest, -greatest, true},
		// just one
		{greatest / 7, 7, greatest, true},
		{-greatest / 7, -7, greatest, true},
		{-half, 2, least, true},
		{half, -2, least, true},
		{1 << 31, -1 << 32, least, true},
		{root, root, root * root, true},
		{-root, -root, root * root, true},
		// just none
		{greatest/7 + 1, 7, 0, false},
		{half, 2, 0, false},
		{-half, -2, 0, false},
		{-half - 1, 2, 0, false},
		{1 << 31, 1 << 32, 0, false},
		{root + 1, root + 1, 0, false},
		{-root - 1, -root - 1, 0, false},
		{least, -1, 0, false},
		{-1, least, 0, false},
		// none, though the low 64 bits are 0, or look like an answer
		{1 << 32, 1 << 32, 0, false},
		{least, 2, 0, false},
		{2, least, 0, false},
		{least, least, 0, false},
		{greatest, greatest, 0, false},
		{greatest, least, 0, false},
		{least, greatest, 0, false},
	})
}

func TestDown(t *testing.T) {
	checkPairs(t, "Down", calc.Down, []pair{
		{0, 1, 0, true},
		{6, 3, 2, true},
		{7, 3, 2, true},
		{8, 3, 2, true},
		{1, 3, 0, true},
		// below 0
		{-3, 2, -2, true},
		{-1, 3, -1, true},
		{-6, 3, -2, true},
		{-7, 3, -3, true},
		{-8, 3, -3, true},
		// the ends
		{greatest, 1, greatest, true},
		{least, 1, least, true},
		{greatest, 2, half - 1, true},
		{least, 2, -half, true},
		{least + 1, 2, -half, true},
		{greatest, greatest, 1, true},
		{greatest - 1, greatest, 0, true},
		{-1, greatest, -1, true},
		{-greatest, greatest, -1, true},
		{least, greatest, -2, true},
		// no divisor
		{7, 0, 0, false},
		{0, 0, 0, false},
		{7, -1, 0, false},
		{-6, -3, 0, false},
		{least, -1, 0, false},
		{7, least, 0, false},
		{least, least, 0, false},
	})
}

func TestUp(t *testing.T) {
	checkPairs(t, "Up", calc.Up, []pair{
		{0, 1, 0, true},
		{6, 3, 2, true},
		{7, 3, 3, true},
		{8, 3, 3, true},
		{1, 3, 1, true},
		// below 0
		{-3, 2, -1, true},
		{-1, 3, 0, true},
		{-6, 3, -2, true},
		{-7, 3, -2, true},
		{-8, 3, -2, true},
		// the ends
		{greatest, 1, greatest, true},
		{least, 1, least, true},
		{greatest, 2, half, true},
		{least, 2, -half, true},
		{least + 1, 2, -half + 1, true},
		{greatest, greatest, 1, true},
		{1, greatest, 1, true},
		{-1, greatest, 0, true},
		{-greatest, greatest, -1, true},
		{least, greatest, -1, true},
		// no divisor
		{7, 0, 0, false},
		{0, 0, 0, false},
		{7, -1, 0, false},
		{-6, -3, 0, false},
		{least, -1, 0, false},
		{7, least, 0, false},
		{least, least, 0, false},
	})
}

func TestSum(t *testing.T) {
	for _, c := range []struct {
		l    []int
		want int
		ok   bool
	}{
		{nil, 0, true},
		{[]int{}, 0, true},
		{[]int{5}, 5, true},
		{[]int{greatest}, greatest, true},
		{[]int{least}, least, true},
		{[]int{1, 2, -9}, -6, true},
		{[]int{1, 2, 3, 4, 5, 6, 7, 8, 9, 10}, 55, true},
		// just one, just none
		{[]int{half, half - 1}, greatest, true},
		{[]int{half, half - 1, 1}, 0, false},
		{[]int{-half, -half}, least, true},
		{[]int{-half, -half, -1}, 0, false},
		// none only on the way; in another order it is one
		{[]int{greatest, 1, -1}, 0, false},
		{[]int{greatest, -1, 1}, greatest, true},
		{[]int{-1, 1, greatest}, greatest, true},
		{[]int{least, -1, 1}, 0, false},
		{[]int{least, 1, -1}, least, true},
		{[]int{greatest, greatest, least, least}, 0, false},
		{[]int{greatest, least, greatest, least}, -2, true},
		// what comes behind does not mend it
		{[]int{least, -1, greatest, 1, 0, 7}, 0, false},
	} {
		if got, ok := calc.Sum(c.l...); got != c.want || ok != c.ok {
			t.Errorf("P1.1: Sum(%v) = %d, %v; want %d, %v", c.l, got, ok, c.want, c.ok)
		}
	}
	if got, ok := calc.Sum(); got != 0 || !ok {
		t.Errorf("P1.1: Sum() = %d, %v; want 0, true", got, ok)
	}
	if got, ok := calc.Sum(3, -4); got != -1 || !ok {
		t.Errorf("P1.1: Sum(3, -4) = %d, %v; want -1, true", got, ok)
	}
}

func TestSumOfMany(t *testing.T) {
	l := make([]int, 100000)
	for i := range l {
		l[i] = i
	}
	if got, ok := calc.Sum(l...); got != 4999950000 || !ok {
		t.Errorf("P1.1: Sum of 0 to 99999 = %d, %v; want 4999950000, true", got, ok)
	}
}

// TestSumChangesNothing: P2 and P3, of the one call that is handed a list.
func TestSumChangesNothing(t *testing.T) {
	back := []int{4, greatest, 1, least, 9, 9}
	l := back[:4]
	for range 3 {
		if got, ok := calc.Sum(l...); got != 0 || ok {
			t.Errorf("P3: Sum(%v) = %d, %v; want 0, false", l, got, ok)
		}
		if got, ok := calc.Sum(l[2:]...); got != least+1 || !ok {
			t.Errorf("P3: Sum(%v) = %d, %v; want the least and 1, true", l[2:], got, ok)
		}
	}
	if !slices.Equal(back, []int{4, greatest, 1, least, 9, 9}) {
		t.Errorf("P2: Sum changed what it was handed to %v", back)
	}
	l[2] = 2
	if got, ok := calc.Sum(l[2:]...); got != least+2 || !ok {
		t.Errorf("P2: Sum(%v) = %d, %v; want the least and 2, true", l[2:], got, ok)
	}
}

func TestClamp(t *testing.T) {
	for _, c := range []struct{ n, lo, hi, want int }{
		{5, 1, 9, 5},
		{0, 1, 9, 1},
		{10, 1, 9, 9},
		{1, 1, 9, 1},
		{9, 1, 9, 9},
		{-5, -9, -1, -5},
		{-10, -9, -1, -9},
		{0, -9, -1, -1},
		{4, 4, 4, 4},
		{3, 4, 4, 4},
		{5, 4, 4, 4},
		// the ends of 64 bits
		{least, least, greatest, least},
		{greatest, least, greatest, greatest},
		{least, 0, greatest, 0},
		{greatest, least, 0, 0},
		{0, least, least, least},
		{0, greatest, greatest, greatest},
		// ends that are not in order: below lo first, then above hi
		{5, 9, 1, 9},
		{0, 9, 1, 9},
		{1, 9, 1, 9},
		{8, 9, 1, 9},
		{9, 9, 1, 1},
		{10, 9, 1, 1},
		{0, greatest, least, greatest},
		{greatest, greatest, least, least},
	} {
		if got := calc.Clamp(c.n, c.lo, c.hi); got != c.want {
			t.Errorf("P1.1: Clamp(%d, %d, %d) = %d; want %d", c.n, c.lo, c.hi, got, c.want)
		}
	}
}

// near are numbers around all the places where something may go over.
func near() []int {
	var l []int
	for _, n := range []int{0, least, greatest, half, -half, 1 << 31, -1 << 31, 1 << 32, -1 << 32, root, -root, greatest / 3, least / 3, 1000} {
		for d := -3; d <= 3; d++ {
			l = append(l, n+d) // that some wrap round does no harm: they are near the other end
		}
	}
	return l
}

// checkExact holds an answer against the exact number; nil: there is none to be answered.
func checkExact(t *testing.T, name string, a int, b int, got int, ok bool, exact *big.Int) {
	t.Helper()
	want, wantOK := 0, exact != nil && exact.IsInt64()
	if wantOK {
		want = int(exact.Int64())
	}
	if got != want || ok != wantOK {
		t.Errorf("P1.1: %s(%d, %d) = %d, %v; want %d, %v", name, a, b, got, ok, want, wantOK)
	}
}

// quotients are a divided by b, rounded down and up; nil, if b is below 1.
func quotients(a *big.Int, b *big.Int) (*big.Int, *big.Int) {
	if b.Sign() < 1 {
		return nil, nil
	}
	down, rest := new(big.Int).DivMod(a, b, new(big.Int))
	up := new(big.Int).Set(down)
	if rest.Sign() > 0 {
		up.Add(up, big.NewInt(1))
	}
	return down, up
}

func TestExact(t *testing.T) {
	l := near()
	for _, a := range l {
		for _, b := range l {
			x, y := big.NewInt(int64(a)), big.NewInt(int64(b))
			down, up := quotients(x, y)
			for _, c := range []struct {
				name  string
				call  func(int, int) (int, bool)
				exact *big.Int
			}{
				{"Add", calc.Add, new(big.Int).Add(x, y)},
				{"Sub", calc.Sub, new(big.Int).Sub(x, y)},
				{"Mul", calc.Mul, new(big.Int).Mul(x, y)},
				{"Down", calc.Down, down},
				{"Up", calc.Up, up},
			} {
				got, ok := c.call(a, b)
				checkExact(t, c.name, a, b, got, ok, c.exact)
			}
			got, ok := calc.Sum(a, b)
			checkExact(t, "Sum", a, b, got, ok, new(big.Int).Add(x, y))
		}
	}
}
