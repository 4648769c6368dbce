package bank_test

import (
	"math"
	"strconv"
	"testing"

	"scutage/bank"
)

const (
	least    = math.MinInt64
	greatest = math.MaxInt64
	// mostRoom and mostPut are as the chapter writes them out.
	mostRoom = 65535
	mostPut  = 2147483648
)

// far are numbers as far out as can be, and such as may be when cut short.
func far() []int {
	return []int{least, least + 1, least + 5, -1 << 62, -1 << 40, -1<<32 - 1, -1 << 32, -1<<32 + 1, -1<<32 + 5, -mostPut - 1, -mostPut, -mostPut + 1, -65537, -65536, -65535, -256, -255, -5,
		65537, 65540, 1 << 20, mostPut - 1, mostPut, mostPut + 1, 1<<32 - 1, 1 << 32, 1<<32 + 1, 1<<32 + 5, 1<<33 + 7, 1 << 40, 1 << 62, greatest - mostPut, greatest - 65535, greatest - 1, greatest}
}

// rooms are numbers of most that may be, small, middling and great ones.
func rooms() []int {
	return []int{0, 1, 2, 3, 4, 5, 6, 7, 8, 15, 16, 63, 64, 65, 100, 127, 128, 255, 256, 257, 1000, 4095, 32767, 32768, 65533, 65534, 65535}
}

// nearest is the number from lo to hi that is nearest to n.
func nearest(n int, lo int, hi int) int {
	return max(lo, min(n, hi))
}

// plain is what a bank must be: numbers, each one counted for itself.
type plain struct {
	most  int
	there int
	in    int64
	out   int64
	lost  int64
	// What was put in all, as far as it counts.
	put int64
}

func newPlain(most int) *plain {
	return &plain{most: nearest(most, 0, mostRoom)}
}

func (m *plain) bring(n int) int {
	if n < 0 {
		n = 0
	}
	if n > mostPut {
		n = mostPut
	}
	m.put += int64(n)
	kept := n
	if m.there+n > m.most {
		kept = m.most - m.there
	}
	m.there += kept
	m.in += int64(kept)
	m.lost += int64(n) - int64(kept)
	return kept
}

func (m *plain) take(n int) bool {
	if n < 0 || m.there < n {
		return false
	}
	m.there -= n
	m.out += int64(n)
	return true
}

func (m *plain) spend(n int) int {
	if n < 0 {
		return 0
	}
	if n > m.there {
		n = m.there
	}
	m.take(n)
	return n
}

// told is all that a bank tells when it is asked.
type told struct {
	balance       int
	in, out, lost int64
}

func (x told) String() string {
	s := "Balance " + strconv.Itoa(x.balance)
	s += ", In " + strconv.FormatInt(x.in, 10)
	s += ", Out " + strconv.FormatInt(x.out, 10)
	return s + ", Lost " + strconv.FormatInt(x.lost, 10)
}

// ask is all that b tells.
func ask(b *bank.Bank) told {
	return told{b.Balance(), b.In(), b.Out(), b.Lost()}
}

// held is a bank, and the plain one that it is held against.
type held struct {
	bank  *bank.Bank
	plain *plain
}

func newHeld(most int) *held {
	return &held{bank: bank.New(most), plain: newPlain(most)}
}

// look asks all that is told, and changes nothing.
func (h *held) look(t *testing.T, when string) {
	t.Helper()
	m := h.plain
	got, want := ask(h.bank), told{m.there, m.in, m.out, m.lost}
	if got != want {
		t.Fatalf("P22.1: of %d: %s: %v; want %v", m.most, when, got, want)
	}
	if int64(got.balance) != got.in-got.out {
		t.Fatalf("P22.2: of %d: %s: %v: Balance is not In less Out", m.most, when, got)
	}
	if got.balance < 0 || got.balance > m.most {
		t.Fatalf("P22.2: of %d: %s: %v: Balance is not from 0 to most", m.most, when, got)
	}
	if got.in+got.lost != m.put {
		t.Fatalf("P22.1: of %d: %s: %v: kept and lost are not the %d that were put", m.most, when, got, m.put)
	}
}

// call writes a call with its number.
func call(name string, n int) string {
	return name + "(" + strconv.Itoa(n) + ")"
}

func (h *held) put(t *testing.T, n int) int {
	t.Helper()
	was := *h.plain
	want := h.plain.bring(n)
	if got := h.bank.Put(n); got != want {
		t.Fatalf("P22.1: of %d, with %d: Put(%d) = %d; want %d", was.most, was.there, n, got, want)
	}
	h.look(t, "behind "+call("Put", n))
	return want
}

func (h *held) take(t *testing.T, n int) bool {
	t.Helper()
	was := *h.plain
	want := h.plain.take(n)
	if got := h.bank.Take(n); got != want {
		t.Fatalf("P22.1: of %d, with %d: Take(%d) = %t; want %t", was.most, was.there, n, got, want)
	}
	h.look(t, "behind "+call("Take", n))
	return want
}

func (h *held) spend(t *testing.T, n int) int {
	t.Helper()
	was := *h.plain
	want := h.plain.spend(n)
	if got := h.bank.Spend(n); got != want {
		t.Fatalf("P22.1: of %d, with %d: Spend(%d) = %d; want %d", was.most, was.there, n, got, want)
	}
	h.look(t, "behind "+call("Spend", n))
	return want
}

// clone is one of its own, with a plain one of its own.
func (h *held) clone(t *testing.T) *held {
	t.Helper()
	p := *h.plain
	c := &held{bank: h.bank.Clone(), plain: &p}
	if c.bank == nil || c.bank == h.bank {
		t.Fatal("P22.1: Clone() is none, or the same")
	}
	c.look(t, "behind Clone, the clone")
	h.look(t, "behind Clone, the one that was cloned")
	return c
}

// with is a bank of most with so many in it, some of which are gone and lost before.
func with(t *testing.T, most int, there int, past bool) *held {
	t.Helper()
	h := newHeld(most)
	if past {
		h.put(t, most+3)
		h.take(t, most/3)
		h.spend(t, most+1)
	}
	h.put(t, there)
	return h
}

// fills is how many may be in a bank of most: none, few, half, all but few, all.
func fills(most int) []int {
	var l []int
	for _, n := range []int{0, 1, 2, most / 2, most - 1, most} {
		if n >= 0 && n <= most {
			l = append(l, n)
		}
	}
	return l
}

// many are banks of several rooms, empty, filled in part and full, new ones and such as much has gone through.
func many(t *testing.T) []*held {
	t.Helper()
	var l []*held
	for _, most := range rooms() {
		for _, there := range fills(most) {
			l = append(l, with(t, most, there, false), with(t, most, there, true))
		}
	}
	return l
}

// about are numbers about those that count for this bank: what there is, and what there is room for; and far ones.
func (h *held) about() []int {
	m := h.plain
	l := append(far(), -2, -1, 0, 1, 2, 3)
	for _, n := range []int{m.there, m.most - m.there, m.most, mostRoom} {
		l = append(l, n-1, n, n+1)
	}
	return l
}
