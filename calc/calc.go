// Package calc is layer 1: whole numbers that may be too great; see shared/doc/01-calc.md.
package calc

// Add is a and b together; 0 and false, if that is no int.
func Add(a int, b int) (int, bool) {
	s := a + b
	// A sum that wrapped round lies on the wrong side of a.
	if (s > a) != (b > 0) {
		return 0, false
	}
	return s, true
}

// Sub is a less b; 0 and false, if that is no int.
func Sub(a int, b int) (int, bool) {
	d := a - b
	// Not Add(a, -b): the least int has no int as its opposite.
	if (d < a) != (b > 0) {
		return 0, false
	}
	return d, true
}

// Mul is a times b; 0 and false, if that is no int.
func Mul(a int, b int) (int, bool) {
	if a == 0 || b == 0 {
		return 0, true
	}
	p := a * b
	// The sign is asked too: the least int times -1 wraps round to itself, and divides back.
	if p/b != a || (p < 0) != ((a < 0) != (b < 0)) {
		return 0, false
	}
	return p, true
}

// Down is a divided by b, rounded down; 0 and false, if b is below 1.
func Down(a int, b int) (int, bool) {
	if b < 1 {
		return 0, false
	}
	q := a / b
	// Go's division rounds towards 0, which is up for quotients below 0.
	if a%b < 0 {
		q--
	}
	return q, true
}

// Up is a divided by b, rounded up; 0 and false, if b is below 1.
func Up(a int, b int) (int, bool) {
	if b < 1 {
		return 0, false
	}
	q := a / b
	// Go's division rounds towards 0, which is down for quotients above 0.
	if a%b > 0 {
		q++
	}
	return q, true
}

// Sum is all of l, added one by one, from the first on; 0 and false, if a sum on the way is no int.
func Sum(l ...int) (int, bool) {
	total := 0
	for _, n := range l {
		next, ok := Add(total, n)
		if !ok {
			return 0, false
		}
		total = next
	}
	return total, true
}

// Clamp is lo, if n is below lo; else hi, if n is above hi; else n.
func Clamp(n int, lo int, hi int) int {
	// lo is asked first: it wins where the ends are not in order.
	if n < lo {
		return lo
	}
	if n > hi {
		return hi
	}
	return n
}
