package code_test

import (
	"slices"
	"strings"
	"testing"

	"scutage/api"
	"scutage/code"
)

// joined is the octets of all steps.
func joined(l []api.Step) string {
	var b strings.Builder
	for _, x := range l {
		b.WriteString(laid(x))
	}
	return b.String()
}

// allChecked is the error that All is to answer.
func allChecked(l []api.Step) api.Errno {
	if len(l) > mostSteps {
		return api.ErrCount
	}
	for _, x := range l {
		if e := checked(x); e != api.OK {
			return e
		}
	}
	return api.OK
}

// allIs holds All against the plain one, twice, with the octets written on; the list stands amid others, which must stay.
func allIs(t *testing.T, l []api.Step) {
	t.Helper()
	want, octets := allChecked(l), ""
	if want == api.OK {
		octets = joined(l)
	}
	around := append(append([]api.Step{{Kind: 99}}, l...), make([]api.Step, 20)...)
	was := slices.Clone(around)
	for range 2 {
		b, e := code.All(around[1 : 1+len(l)])
		if e != want || string(b) != octets {
			t.Errorf("P24.1: All of %d steps is %.60x (%d octets), %d, not %.60x, %d", len(l), b, len(b), e, octets, want)
		}
		scrawl(b)
	}
	if !slices.Equal(around, was) {
		t.Errorf("P2: All of %d steps changed what it was handed", len(l))
	}
}

// cut is the steps of octets that are so many as some steps have.
func cut(s string) []api.Step {
	var l []api.Step
	for ; s != ""; s = s[size:] {
		l = append(l, read(s[:size]))
	}
	return l
}

// stepsIs holds Steps against the plain one, twice, with the steps written on; the octets stand amid others, which must stay.
func stepsIs(t *testing.T, s string) {
	t.Helper()
	var steps []api.Step
	want := api.ErrSyntax
	if len(s)%size == 0 {
		steps = cut(s)
		want = allChecked(steps)
	}
	if want != api.OK {
		steps = nil
	}
	b, kept := between(s)
	for range 2 {
		l, e := code.Steps(b)
		if e != want || !slices.Equal(l, steps) {
			t.Errorf("P24.1: Steps of %d octets (%.60x) is %d steps, %d, not %d, %d", len(s), s, len(l), e, len(steps), want)
		}
		l = l[:cap(l)]
		for i := range l {
			l[i] = api.Step{Kind: -5, T: 9, N: 77}
		}
	}
	if !kept() {
		t.Errorf("P2: Steps of %d octets changed what it was handed", len(s))
	}
}

// bothIs holds All, Steps, and one behind the other.
func bothIs(t *testing.T, l []api.Step) {
	t.Helper()
	allIs(t, l)
	b, e := code.All(l)
	if e != api.OK {
		return
	}
	stepsIs(t, string(b))
	back, e := code.Steps(b)
	if e != api.OK || !slices.Equal(back, l) {
		t.Errorf("P24.2: %d steps come back as %d, %d", len(l), len(back), e)
	}
	again, e := code.All(back)
	if e != api.OK || string(again) != joined(l) {
		t.Errorf("P24.2: octets of %d steps come back as %d octets, %d", len(l), len(again), e)
	}
}

// may are n steps that may be, unlike each other as far as they go.
func may(n int) []api.Step {
	var l []api.Step
	all := some()
	for i := range n {
		l = append(l, all[i*37%len(all)])
	}
	return l
}

// faults are steps that may not be, for each of the errors; those that can be octets come first.
var faults = []api.Step{{}, {Kind: 18}, {Kind: 255, T: 7}, {Kind: 17, T: 1}, {Kind: 16, Cost: 1}, {Kind: 1, N: -1}, {Kind: 1, T: 256}, {Kind: 17, J: -1, N: 4}, {Kind: 256 + 17}, {Kind: -239}}

const octetFaults = 6

// TestNone: nil and none are one.
func TestNone(t *testing.T) {
	for _, l := range [][]api.Step{nil, {}} {
		if b, e := code.All(l); e != api.OK || len(b) != 0 {
			t.Errorf("P24.1: All of none is %x, %d", b, e)
		}
	}
	for _, b := range [][]byte{nil, {}} {
		if l, e := code.Steps(b); e != api.OK || len(l) != 0 {
			t.Errorf("P24.1: Steps of no octets is %v, %d", l, e)
		}
	}
	bothIs(t, nil)
}

// TestCounts: all numbers of steps next to the greatest, and some between.
func TestCounts(t *testing.T) {
	for _, n := range []int{1, 2, 3, 13, 14, 15, 100, 127, 128, 129, 254, 255, 256, 257, 258, 300, 511, 512, 513, 3584, 65536, 65537} {
		l := may(n)
		bothIs(t, l)
		stepsIs(t, joined(l))
		b, e := code.All(l)
		if (e == api.OK) != (n <= mostSteps) || e == api.OK && len(b) != n*size {
			t.Errorf("P24.1: All of %d steps: %d octets, %d", n, len(b), e)
		}
	}
	for _, x := range some() {
		bothIs(t, []api.Step{x})
		bothIs(t, []api.Step{x, {Kind: 17}, x})
	}
}

// TestTooManyFirst: that they are too many is told ahead of any fault among them.
func TestTooManyFirst(t *testing.T) {
	for _, n := range []int{257, 258, 600} {
		whole := may(n)
		for _, at := range []int{0, 1, 100, 255, 256, n - 1} {
			for _, x := range faults {
				l := slices.Clone(whole)
				l[at] = x
				if b, e := code.All(l); e != api.ErrCount || len(b) != 0 {
					t.Errorf("P24.1: All of %d, a fault at %d: %d octets, %d", n, at, len(b), e)
				}
			}
			for _, x := range faults[:octetFaults] {
				l := slices.Clone(whole)
				l[at] = x
				if back, e := code.Steps([]byte(joined(l))); e != api.ErrCount || len(back) != 0 {
					t.Errorf("P24.1: Steps of %d, a fault at %d: %d steps, %d", n, at, len(back), e)
				}
			}
		}
	}
}

// TestFaults: a step that may not be at each place that counts, and two unlike each other.
func TestFaults(t *testing.T) {
	for _, n := range []int{1, 2, 3, 9, 256} {
		whole := may(n)
		for _, at := range []int{0, n / 2, n - 1} {
			for i, x := range faults {
				l := slices.Clone(whole)
				l[at] = x
				allIs(t, l)
				if i < octetFaults {
					stepsIs(t, joined(l))
				}
				for j, y := range faults {
					l := slices.Clone(l)
					l[n-1-at/2] = y
					allIs(t, l)
					if i < octetFaults && j < octetFaults {
						stepsIs(t, joined(l))
					}
				}
			}
		}
	}
}

// TestFirstFault: of two faults the first one's error is told, though the other's is named ahead of it.
func TestFirstFault(t *testing.T) {
	kind, far, has := api.Step{Kind: 18}, api.Step{Kind: 1, T: 256}, api.Step{Kind: 1, I: 1}
	good := api.Step{Kind: 5, T: 1}
	for _, c := range []struct {
		l    []api.Step
		want api.Errno
	}{
		{[]api.Step{has, kind}, api.ErrSyntax},
		{[]api.Step{good, has, far, kind}, api.ErrSyntax},
		{[]api.Step{far, kind, has}, api.ErrRange},
		{[]api.Step{good, far, has}, api.ErrRange},
		{[]api.Step{kind, far, has}, api.ErrKind},
		{[]api.Step{good, good, kind}, api.ErrKind},
		{[]api.Step{good, good, far}, api.ErrRange},
		{[]api.Step{good, good, has}, api.ErrSyntax},
	} {
		if b, e := code.All(c.l); e != c.want || len(b) != 0 {
			t.Errorf("P24.1: All(%+v) is %x, %d, not %d", c.l, b, e, c.want)
		}
		if slices.Contains(c.l, far) {
			continue
		}
		if l, e := code.Steps([]byte(joined(c.l))); e != c.want || len(l) != 0 {
			t.Errorf("P24.1: Steps of %+v is %v, %d, not %d", c.l, l, e, c.want)
		}
	}
}

// TestOctetCounts: as many octets as no steps have are ErrSyntax, faults or not, however many.
func TestOctetCounts(t *testing.T) {
	good, bad := strings.Repeat(laid(full(3)), 5000), strings.Repeat("\x00", 70000)
	for n := range 200 {
		stepsIs(t, good[:n])
		stepsIs(t, bad[:n])
	}
	for _, n := range []int{256 * size, 257 * size, 300 * size, 5000 * size} {
		for d := -size; d <= 0; d++ {
			stepsIs(t, good[:n+d])
			stepsIs(t, bad[:n+d])
			if l, e := code.Steps([]byte(bad[:n+d])); n+d > 257*size && (e == api.ErrSyntax) != ((n+d)%size != 0) || len(l) != 0 {
				t.Errorf("P24.1: Steps of %d octets is %d steps, %d", n+d, len(l), e)
			}
		}
	}
	many := make([]byte, size<<20+3)
	if l, e := code.Steps(many); e != api.ErrSyntax || len(l) != 0 {
		t.Errorf("P24.1: Steps of very many octets is %d steps, %d", len(l), e)
	}
	if l, e := code.Steps(many[:size<<20]); e != api.ErrCount || len(l) != 0 {
		t.Errorf("P24.1: Steps of very many octets is %d steps, %d", len(l), e)
	}
}

// TestAnyList: any steps, one behind the other.
func TestAnyList(t *testing.T) {
	r := rule(3)
	whole, long := 0, may(1000)
	for range 3000 {
		from := r.next(980)
		l := slices.Clone(long[from : from+r.next(12)])
		for range r.next(3) {
			if len(l) > 0 {
				l[r.next(len(l))] = r.step()
			}
		}
		bothIs(t, l)
		if allChecked(l) == api.OK {
			whole++
		}
	}
	if whole < 500 {
		t.Errorf("just %d lists were whole", whole)
	}
}
