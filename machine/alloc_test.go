package machine_test

import (
	"testing"

	"scutage/api"
)

// TestAlloc: N and Cost at each end, and the serials.
func TestAlloc(t *testing.T) {
	for quantum := 1; quantum <= 16; quantum++ {
		c := usual(64, 2)
		c.Window, c.Quantum, c.Target = 64, quantum, 0
		h := newHeld(t, c, 1)
		made := int64(0)
		for _, n := range []int64{0, 1, 2, 15, 16, 126, 127} {
			for _, cost := range []int{1, quantum, (quantum + 1) / 2} {
				made++
				h.wants(costs(alloc(0, n), cost), refers(made))
				h.wants(size(0, 0), tells(n))
				if n > 0 {
					h.wants(read(0, 0, int(n)-1), api.Answer{})
					h.wants(pop(0), api.Answer{})
				}
				h.errs(api.ErrRange, read(0, 0, int(n)))
				h.wants(pop(0), refers(made))
			}
			h.errs(api.ErrRange, costs(alloc(0, n), 0), costs(alloc(0, n), quantum+1), costs(alloc(0, n), quantum+2), costs(alloc(0, n), 255))
		}
		for _, n := range []int64{-1, -2, -128, 128, 129, 255, 256, 1 << 32, -1 << 32, 1<<32 + 1, least, greatest} {
			for _, cost := range []int{0, 1, quantum, quantum + 1} {
				h.errs(api.ErrRange, costs(alloc(0, n), cost))
			}
		}
	}
}

// TestAllocRoom: with 15 values one more may be; with 16 not, which is told behind N and Cost, and ahead of all that a new page would bring.
func TestAllocRoom(t *testing.T) {
	c := usual(20, 2)
	c.Trigger = 64
	for _, phase := range []int{idle, on, scan, tracing, drain, sweeping} {
		h := newHeld(t, c, 2)
		h.to(phase)
		h.fill(0, mostRoots-1)
		h.makes(alloc(0, 2), 1)
		h.to(phase)
		h.errs(api.ErrCount, alloc(0, 2), alloc(0, 0), costs(alloc(0, 127), 3), alloc(0, 15))
		h.errs(api.ErrRange, alloc(0, 128), alloc(0, -1), costs(alloc(0, 2), 0), costs(alloc(0, 2), 4), costs(alloc(0, 128), 4))
		h.makes(alloc(1, 2), 2)
		h.wants(pop(0), refers(1))
		h.rest()
		h.makes(alloc(0, 2), 3)
		h.errs(api.ErrCount, alloc(0, 2))
	}
}

// TestAllocErrorsBegin: an alloc with an error of its own begins no cycle, however few pages are free; nor do other steps.
func TestAllocErrorsBegin(t *testing.T) {
	c := usual(4, 1)
	c.Trigger = 64
	h := newHeld(t, c, 1)
	h.errs(api.ErrRange, alloc(0, 128), alloc(0, -1), costs(alloc(0, 1), 0), costs(alloc(0, 1), 4))
	h.fill(0, mostRoots)
	h.errs(api.ErrCount, alloc(0, 1))
	h.empty(0, 0)
	for _, x := range []api.Step{number(0, 1), nothing(0), global(0), again(0, 2), read(0, 2, 0), write(0, 2, 0, 0), same(0, 0, 0), size(0, 2), pop(0), run(0, 1), poll(0), ahead(0, 1), back(1), stop(0), start(0)} {
		h.do(x)
		h.is(idle, 0, 0)
	}
	h.wants(alloc(0, 1), refers(1))
	h.is(on, 0, 0)
}

// TestFast: from the thread's own page: in no phase anything is due, or begun.
func TestFast(t *testing.T) {
	for _, phase := range []int{idle, on, scan, tracing, drain, sweeping} {
		c := usual(8, 2)
		c.Trigger = 64
		h := newHeld(t, c, 2)
		// Class 1: sixteen of a page; the cycle that it begins ends.
		h.wants(alloc(0, 1), refers(1))
		h.is(on, 0, 0)
		h.to(idle)
		balance := h.machine.Balance()
		if balance == 0 {
			t.Fatal("nothing is in the bank")
		}
		h.to(phase)
		was := h.told()
		for i := range int64(14) {
			h.wants(costs(alloc(0, i%2), 3), refers(i+2))
			if h.told() != was {
				t.Fatalf("P26.1: behind the fast way it is %v; it was %v", h.told(), was)
			}
		}
		// One more stands in the page; the thread may not hold as many.
		h.do(pop(0), pop(0), alloc(0, 0), pop(0))
		if h.told() != was {
			t.Fatalf("P26.1: behind the fast way it is %v; it was %v", h.told(), was)
		}
		h.makes(alloc(0, 0), 17)
		if now := h.told(); now == was {
			t.Fatalf("P26.1: behind the slow way in phase %d it is %v, as it was", phase, now)
		}
	}
}

// TestFastOfOthers: another thread's page, and one of another class, are none of the thread's own.
func TestFastOfOthers(t *testing.T) {
	h := newHeld(t, usual(12, 2), 2)
	h.to(tracing)
	h.wants(alloc(0, 1), taxed(refers(1), 3, 0))
	h.wants(alloc(0, 0), refers(2))
	h.wants(alloc(1, 1), taxed(refers(3), 1, 0))
	h.is(drain, 0, 4)
	h.wants(alloc(1, 1), refers(4))
	h.wants(alloc(0, 2), refers(5))
	h.to(sweeping)
	h.rest()
	h.wants(alloc(0, 4), taxed(refers(6), 3, 0))
	h.wants(alloc(0, 7), refers(7))
	h.wants(alloc(0, 3), refers(8))
	h.wants(alloc(0, 1), refers(9))
	h.rest()
	h.wants(alloc(0, 8), taxed(refers(10), 3, 0))
	h.rest()
	// A large one is never fast.
	h.wants(alloc(0, 16), taxed(refers(11), 3, 0))
	h.rest()
	h.wants(alloc(0, 16), taxed(refers(12), 3, 0))
	h.is(idle, 0, 16)
	h.wants(alloc(0, 16), refers(13))
}

// TestNobodysPage: the slow way is due for a page that is nobody's, too: a tax, and a cycle.
func TestNobodysPage(t *testing.T) {
	c := usual(8, 2)
	c.Trigger = 6
	h := newHeld(t, c, 2)
	h.wants(alloc(0, 1), refers(1))
	h.do(global(0), write(0, 1, 0, 0), stop(0))
	h.is(idle, 0, 0)
	if h.machine.Free() != 6 {
		t.Fatalf("P26.1: Free() = %d", h.machine.Free())
	}
	h.do(alloc(1, 31), pop(1), start(0))
	h.is(idle, 0, 0)
	h.wants(alloc(0, 1), refers(3))
	h.is(on, 0, 0)
	if h.machine.Free() != 5 {
		t.Fatalf("P26.1: Free() = %d", h.machine.Free())
	}
	h.do(stop(0))
	h.to(tracing)
	h.wants(alloc(1, 1), taxed(refers(4), 3, 0))
	if h.machine.Free() != 5 {
		t.Fatalf("P26.1: Free() = %d", h.machine.Free())
	}
}

// TestTrigger: with as many free pages as Trigger no cycle begins; with one fewer it does, in phase 0, whatever comes of it.
func TestTrigger(t *testing.T) {
	for trigger := range 9 {
		c := usual(6, 2)
		c.Trigger = trigger
		h := newHeld(t, c, 1)
		begun := false
		for free := 5; free >= 0; free-- {
			want := refers(int64(6 - free))
			if free == 0 {
				want = refuses(api.ErrFull)
			}
			begun = begun || free < trigger
			for range 2 {
				if free > 0 && h.machine.Free() < free {
					break
				}
				h.wants(alloc(0, 31), want)
			}
			if got := h.machine.Phase() == on; got != begun {
				t.Fatalf("P26.1: with a Trigger of %d, of %d free pages, Phase() = %d", trigger, free, h.machine.Phase())
			}
			h.is(h.machine.Phase(), 0, 0)
		}
	}
}

// TestTriggerFull: a cycle begins though the object is refused; it is not begun anew, and when it has ended, there is room.
func TestTriggerFull(t *testing.T) {
	c := usual(6, 1)
	c.Trigger = 1
	h := newHeld(t, c, 1)
	h.do(alloc(0, 127), alloc(0, 31))
	h.is(idle, 0, 0)
	h.wants(alloc(0, 31), refuses(api.ErrFull))
	h.is(on, 0, 0)
	h.do(poll(0))
	h.wants(alloc(0, 31), refuses(api.ErrFull))
	h.is(scan, 0, 0)
	h.do(pop(0), pop(0), poll(0))
	h.wants(alloc(0, 1), taxed(refuses(api.ErrFull), 3, 0))
	h.is(tracing, 0, 3)
	h.to(sweeping)
	h.rest()
	h.wants(alloc(0, 1), taxed(refers(3), 2, 1))
	if h.machine.Free() != 3 {
		t.Fatalf("P26.1: Free() = %d", h.machine.Free())
	}
	h.to(idle)
	h.kept(0, 3)
	if h.machine.Free() != 4 {
		t.Fatalf("P26.1: Free() = %d", h.machine.Free())
	}
	// A large one, for which there are not enough pages that follow one another: no fewer than Trigger are free.
	h.wants(alloc(0, 127), refers(4))
	h.wants(alloc(0, 127), refuses(api.ErrFull))
	h.is(on, h.machine.Balance(), 0)
}

// TestTriggerEnough: what is refused begins no cycle, if enough pages are free.
func TestTriggerEnough(t *testing.T) {
	for trigger, phase := range []int{idle, idle, idle, on, on} {
		c := usual(4, 1)
		c.Trigger = trigger
		h := newHeld(t, c, 1)
		if trigger < 4 {
			h.wants(alloc(0, 31), refers(1))
			h.is(idle, 0, 0)
		} else {
			h.wants(alloc(0, 31), refers(1))
			h.is(on, 0, 0)
		}
		h.wants(alloc(0, 127), refuses(api.ErrFull))
		h.is(phase, 0, 0)
	}
}

// TestTaxOfTime: with an empty bank all of the tax is worked in the thread's time.
func TestTaxOfTime(t *testing.T) {
	h := newHeld(t, usual(8, 2), 1)
	h.to(tracing)
	h.wants(alloc(0, 15), taxed(refers(1), 3, 0))
	h.counts(0, 3)
	h.is(tracing, 0, 3)
	h.wants(alloc(0, 15), refers(2))
	h.counts(0, 3)
	h.errs(api.ErrTax, alloc(0, 15))
	// Of 3, 4 and 3 letters six would be the collector's.
	h.do(run(0, 2))
	h.errs(api.ErrTax, alloc(0, 15))
	h.do(run(0, 1))
	h.wants(alloc(0, 15), taxed(refers(3), 1, 0))
	h.counts(0, 4)
	h.is(drain, 0, 4)
	h.do(run(0, 3))
	h.counts(0, 1)
}

// TestTaxInSweep: the same in phase 5, whose last units end the cycle.
func TestTaxInSweep(t *testing.T) {
	c := usual(8, 2)
	c.Cap = 0
	h := newHeld(t, c, 1)
	h.to(sweeping)
	h.is(sweeping, 0, 4)
	h.wants(alloc(0, 31), taxed(refers(1), 3, 0))
	h.is(sweeping, 0, 7)
	h.errs(api.ErrTax, alloc(0, 31))
	h.rest()
	h.wants(alloc(0, 31), taxed(refers(2), 3, 0))
	h.is(sweeping, 0, 10)
	h.rest()
	h.wants(alloc(0, 31), taxed(refers(3), 2, 0))
	h.counts(0, 2)
	h.is(idle, 0, 12)
	h.wants(alloc(0, 31), refers(4))
	h.is(idle, 0, 12)
	if h.machine.Cycles() != 1 {
		t.Errorf("P26.1: Cycles() = %d", h.machine.Cycles())
	}
}

// bank is a machine of that config in phase 3, with one live thread, and so many units in the bank.
func bank(t *testing.T, c api.Config, balance int) *held {
	t.Helper()
	h := newHeld(t, c, 1)
	h.to(tracing)
	if balance > 0 {
		h.wants(back(int64(balance)), worked(balance))
	}
	h.is(tracing, balance, balance)
	return h
}

// TestTaxOfBank: what the bank has pays first; the rest is worked, if the thread's time admits it.
func TestTaxOfBank(t *testing.T) {
	h := bank(t, usual(8, 1), 2)
	h.wants(alloc(0, 15), taxed(refers(1), 1, 2))
	h.is(tracing, 0, 3)
	h.counts(0, 1)
	h = bank(t, usual(8, 1), 3)
	h.wants(alloc(0, 15), taxed(refers(1), 0, 3))
	h.is(tracing, 0, 3)
	h.counts(0, 0)
	// All is paid: it is not asked whether there is a unit.
	h = bank(t, usual(8, 1), 4)
	h.wants(alloc(0, 31), taxed(refers(1), 0, 3))
	h.is(tracing, 1, 4)
	h.wants(alloc(0, 31), taxed(refers(2), 0, 1))
	h.is(drain, 0, 4)
	h.counts(0, 0)
}

// TestTaxCosts: each cost with each balance, of time that has no letter of the collector's yet: of a tax of 3 units.
func TestTaxCosts(t *testing.T) {
	for balance := range 5 {
		for cost := 1; cost <= 3; cost++ {
			h := bank(t, usual(8, 1), balance)
			credit := min(balance, 3)
			x := costs(alloc(0, 31), cost)
			if rest := 3 - credit; rest*cost > 5 {
				h.errs(api.ErrTax, x)
				h.is(tracing, balance, balance)
				h.counts(0, 0)
				continue
			}
			done := min(3-credit, 4-balance)
			h.wants(x, taxed(refers(1), done, credit))
			h.is(tracing, balance-credit, balance+done)
			h.counts(0, done*cost)
		}
	}
}

// TestTaxRest: what the window leaves, and one more, for each cost: the rest, however little of it there is to be worked, must be admitted.
func TestTaxRest(t *testing.T) {
	for tax := range 6 {
		for cost := 1; cost <= 3; cost++ {
			for spent := range 6 {
				c := usual(10, 1)
				c.Tax, c.Cap = tax, 0
				h := newHeld(t, c, 1)
				h.to(sweeping)
				if spent > 0 {
					h.wants(ahead(0, int64(spent)), worked(spent))
				}
				x := costs(alloc(0, 31), cost)
				if spent+tax*cost > 5 {
					h.errs(api.ErrTax, x)
					continue
				}
				h.wants(x, taxed(refers(1), tax, 0))
				h.counts(0, spent+tax*cost)
			}
		}
	}
}

// TestTaxNothingLeft: the tax is due, but there is nothing to be worked: phase 3 leads to 4, in phase 5 the cycle ends ahead of it.
func TestTaxNothingLeft(t *testing.T) {
	c := usual(8, 1)
	c.Cap = 0
	h := newHeld(t, c, 1)
	h.to(tracing)
	h.wants(back(4), worked(4))
	h.is(tracing, 0, 4)
	// Six ticks are not admitted, though none would come.
	h.errs(api.ErrTax, costs(alloc(0, 31), 2))
	h.wants(alloc(0, 31), refers(1))
	h.is(drain, 0, 4)
	h.counts(0, 0)
	h.to(sweeping)
	h.wants(back(7), worked(7))
	h.errs(api.ErrTax, costs(alloc(0, 31), 2))
	h.wants(alloc(0, 31), taxed(refers(2), 1, 0))
	h.counts(0, 1)
	h.is(idle, 0, 12)
	// With what the bank has, which is spent though nothing is worked.
	h = bank(t, usual(8, 1), 4)
	h.wants(alloc(0, 31), taxed(refers(1), 0, 3))
	h.wants(alloc(0, 31), taxed(refers(2), 0, 1))
	h.is(drain, 0, 4)
}

// TestTaxOfZero: nothing is due, whatever the bank has, and however the thread's time was spent.
func TestTaxOfZero(t *testing.T) {
	c := usual(12, 1)
	c.Tax = 0
	h := bank(t, c, 2)
	h.wants(alloc(0, 31), refers(1))
	h.is(tracing, 2, 2)
	h.wants(ahead(0, 2), worked(2))
	h.wants(alloc(0, 31), refers(2))
	h.is(tracing, 4, 4)
	h.to(sweeping)
	h.rest()
	h.wants(ahead(0, 5), worked(5))
	h.counts(0, 5)
	h.errs(api.ErrTax, ahead(0, 1))
	h.wants(costs(alloc(0, 31), 3), refers(3))
	h.counts(0, 5)
	h.is(sweeping, 9, 9)
}

// TestTaxGreatest: the greatest tax and cost, which no window admits, and which a bank pays.
func TestTaxGreatest(t *testing.T) {
	c := api.Config{Pages: 64, Threads: 1, Window: 64, Quantum: 16, Target: 0, Cap: 65535, Tax: 64, Chunk: 1, Stack: 256}
	h := newHeld(t, c, 1)
	h.to(sweeping)
	h.is(sweeping, 4, 4)
	h.errs(api.ErrTax, costs(alloc(0, 0), 2))
	h.wants(back(28), worked(28))
	h.errs(api.ErrTax, costs(alloc(0, 0), 16))
	h.errs(api.ErrTax, costs(alloc(0, 0), 3))
	h.wants(costs(alloc(0, 0), 2), taxed(refers(1), 32, 32))
	h.counts(0, 63)
	h.is(sweeping, 0, 64)
	h.errs(api.ErrTax, costs(alloc(0, 127), 2))
	// All letters of a window may be the collector's.
	h.wants(alloc(0, 127), taxed(refers(2), 4, 0))
	h.counts(0, 62)
	h.is(idle, 0, 68)
	h.rest()
	h.to(sweeping)
	h.rest()
	h.wants(back(60), worked(60))
	// The bank has more than is due.
	balance := h.machine.Balance()
	h.wants(costs(alloc(0, 127), 16), taxed(refers(3), 0, 64))
	h.is(sweeping, balance-64, h.machine.Units())
	h.counts(0, 0)
}

// TestTaxWholeWindow: a window of which all may be the collector's; and one that leaves one letter.
func TestTaxWholeWindow(t *testing.T) {
	c := usual(30, 1)
	c.Window, c.Target, c.Tax, c.Cap = 6, 0, 6, 0
	h := newHeld(t, c, 1)
	h.to(sweeping)
	for i := range int64(4) {
		h.wants(alloc(0, 31), taxed(refers(i+1), 6, 0))
		h.counts(0, 5)
	}
	h.errs(api.ErrTax, costs(alloc(0, 31), 2))
	c.Quantum, c.Target, c.Tax = 1, 833, 1
	h = newHeld(t, c, 1)
	h.to(sweeping)
	h.wants(alloc(0, 31), taxed(refers(1), 1, 0))
	for range 4 {
		h.errs(api.ErrTax, alloc(0, 31))
		h.do(run(0, 1))
	}
	h.wants(alloc(0, 31), taxed(refers(2), 1, 0))
}

// TestTaxBeforeFull: where there is no page, what was paid and worked stays so, and no letter of the thread's own comes.
func TestTaxBeforeFull(t *testing.T) {
	c := usual(3, 1)
	for _, n := range []int64{0, 15, 31, 127} {
		h := newHeld(t, c, 1)
		h.occupy(0, 0)
		h.rest()
		h.wants(alloc(0, n), refuses(api.ErrFull))
		h.to(tracing)
		h.wants(back(2), worked(2))
		h.wants(alloc(0, n), taxed(refuses(api.ErrFull), 1, 2))
		h.kept(0, 1, 2)
		h.holds(0, ref(1), ref(2))
		h.is(tracing, 0, 3)
		h.counts(0, 1)
		h.do(run(0, 9))
		h.counts(0, 1)
		h.do(run(0, 1))
		h.counts(0, 0)
		h.wants(costs(alloc(0, n), 1), taxed(refuses(api.ErrFull), 3, 0))
		h.is(tracing, 0, 6)
		h.errs(api.ErrTax, alloc(0, n))
		h.rest()
		h.errs(api.ErrTax, costs(alloc(0, n), 2))
		h.wants(back(64), worked(60))
		h.do(poll(0))
		h.is(sweeping, 9, 66)
		h.wants(costs(alloc(0, n), 3), taxed(refuses(api.ErrFull), 0, 3))
		h.is(sweeping, 6, 66)
		h.do(back(2))
		h.wants(alloc(0, n), taxed(refuses(api.ErrFull), 0, 3))
		h.wants(alloc(0, n), taxed(refuses(api.ErrFull), 0, 3))
		h.wants(alloc(0, n), taxed(refuses(api.ErrFull), 1, 2))
		h.is(idle, 0, 69)
		h.wants(alloc(0, n), refuses(api.ErrFull))
		h.kept(0, 1, 2)
	}
}

// TestTaxFrees: what the tax sweeps is free for the object that it was due for.
func TestTaxFrees(t *testing.T) {
	for tax := range 5 {
		c := usual(3, 1)
		c.Tax, c.Cap = tax, 0
		h := newHeld(t, c, 1)
		h.occupy(0, 0)
		h.do(pop(0), pop(0))
		h.to(sweeping)
		h.rest()
		x := alloc(0, 31)
		switch tax {
		case 0, 1:
			// Page 0 has the global object alone.
			h.wants(x, taxed(refuses(api.ErrFull), tax, 0))
			h.kept(0, 1, 2)
		case 2:
			h.wants(x, taxed(refers(3), 2, 0))
			h.kept(0, 2, 3)
			h.is(sweeping, 0, 6)
		default:
			h.wants(x, taxed(refers(3), 3, 0))
			h.kept(0, 3)
			h.is(idle, 0, 7)
			h.counts(0, 3)
		}
	}
}

// TestTaxFreesOwn: what the tax sweeps is the thread's own page: the object stands there.
func TestTaxFreesOwn(t *testing.T) {
	c := usual(3, 1)
	c.Cap = 0
	h := newHeld(t, c, 1)
	h.do(alloc(0, 15), alloc(0, 15), alloc(0, 31), pop(0), pop(0), pop(0), global(0))
	h.to(sweeping)
	h.rest()
	h.wants(alloc(0, 15), taxed(refers(4), 3, 0))
	h.kept(0, 4)
	if h.machine.Free() != 1 {
		t.Errorf("P26.1: Free() = %d", h.machine.Free())
	}
}

// TestNoTax: in phases 0, 1, 2 and 4 nothing is due, and the bank keeps all.
func TestNoTax(t *testing.T) {
	for _, phase := range []int{idle, on, scan, drain} {
		for _, trigger := range []int{0, 64} {
			c := usual(12, 2)
			c.Trigger = trigger
			h := newHeld(t, c, 1)
			h.to(sweeping)
			h.to(idle)
			h.to(phase)
			units := h.machine.Units()
			h.wants(costs(alloc(0, 31), 3), refers(1))
			h.counts(0, 0)
			if phase == idle && trigger > 0 {
				h.is(on, 9, 0)
			} else {
				h.is(phase, 9, units)
			}
		}
	}
}
