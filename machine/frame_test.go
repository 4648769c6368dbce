package machine_test

import (
	"bytes"
	"slices"
	"testing"

	"scutage/api"
	"scutage/code"
	"scutage/machine"
)

// octets are those of a step, field by field, whether it may be or not.
func octets(x api.Step) []byte {
	b := []byte{byte(x.Kind), byte(x.T), byte(x.I), byte(x.F), byte(x.J), byte(x.Cost)}
	for shift := 56; shift >= 0; shift -= 8 {
		b = append(b, byte(x.N>>shift))
	}
	return b
}

// answered are those of an answer.
func answered(a api.Answer) []byte {
	b := []byte{byte(a.Code), byte(a.Kind)}
	for shift := 56; shift >= 0; shift -= 8 {
		b = append(b, byte(a.N>>shift))
	}
	return append(b, byte(a.Done>>8), byte(a.Done), byte(a.Credit>>8), byte(a.Credit))
}

// frame wants the octets of a step to be answered by those of the answer, and all to be as behind the step.
func (h *held) frame(x api.Step) api.Answer {
	h.Helper()
	want := h.plain.do(x)
	b := octets(x)
	was := slices.Clone(b)
	if got := h.machine.Frame(b); !bytes.Equal(got, answered(want)) {
		h.Fatalf("P26.1: in phase %d, Frame(%v) = %v; want %v", h.plain.cycle.Phase(), b, got, answered(want))
	}
	if !bytes.Equal(b, was) {
		h.Fatalf("P2: behind Frame the octets %v are %v", was, b)
	}
	h.look(b)
	return want
}

// TestFrame: steps of each kind, with and without errors, as octets.
func TestFrame(t *testing.T) {
	h := newHeld(t, usual(8, 2), 0)
	for _, x := range []struct {
		step api.Step
		want []byte
	}{
		{start(0), []byte{0, 0, 0, 0, 0, 0, 0, 0, 0, 0, 0, 0, 0, 0}},
		{start(0), []byte{9, 0, 0, 0, 0, 0, 0, 0, 0, 0, 0, 0, 0, 0}},
		{stop(1), []byte{14, 0, 0, 0, 0, 0, 0, 0, 0, 0, 0, 0, 0, 0}},
		{number(0, -2), []byte{0, 1, 255, 255, 255, 255, 255, 255, 255, 254, 0, 0, 0, 0}},
		{number(0, 0x102030405), []byte{0, 1, 0, 0, 0, 1, 2, 3, 4, 5, 0, 0, 0, 0}},
		{nothing(0), make([]byte, 14)},
		{global(0), []byte{0, 2, 0, 0, 0, 0, 0, 0, 0, 0, 0, 0, 0, 0}},
		{again(0, 0), []byte{0, 1, 255, 255, 255, 255, 255, 255, 255, 254, 0, 0, 0, 0}},
		{same(0, 0, 4), []byte{0, 1, 0, 0, 0, 0, 0, 0, 0, 1, 0, 0, 0, 0}},
		{write(0, 3, 3, 0), make([]byte, 14)},
		{read(0, 3, 3), []byte{0, 1, 255, 255, 255, 255, 255, 255, 255, 254, 0, 0, 0, 0}},
		{size(0, 3), []byte{0, 1, 0, 0, 0, 0, 0, 0, 0, 4, 0, 0, 0, 0}},
		{size(0, 0), []byte{12, 0, 0, 0, 0, 0, 0, 0, 0, 0, 0, 0, 0, 0}},
		{pop(0), []byte{0, 1, 255, 255, 255, 255, 255, 255, 255, 254, 0, 0, 0, 0}},
		{run(0, 64), make([]byte, 14)},
		{run(0, 65), []byte{4, 0, 0, 0, 0, 0, 0, 0, 0, 0, 0, 0, 0, 0}},
		{begin(), make([]byte, 14)},
		{poll(0), make([]byte, 14)},
		{poll(0), make([]byte, 14)},
		{ahead(0, 1), []byte{0, 0, 0, 0, 0, 0, 0, 0, 0, 0, 0, 1, 0, 0}},
		{back(1), []byte{0, 0, 0, 0, 0, 0, 0, 0, 0, 0, 0, 1, 0, 0}},
		{alloc(0, 15), []byte{0, 2, 0, 0, 0, 0, 0, 0, 0, 1, 0, 1, 0, 2}},
		{alloc(0, 127), []byte{0, 2, 0, 0, 0, 0, 0, 0, 0, 2, 0, 1, 0, 0}},
		{alloc(0, 127), []byte{10, 0, 0, 0, 0, 0, 0, 0, 0, 0, 0, 0, 0, 0}},
		{costs(ahead(0, 64), 3), []byte{21, 0, 0, 0, 0, 0, 0, 0, 0, 0, 0, 0, 0, 0}},
		{stop(0), make([]byte, 14)},
	} {
		if got := answered(h.frame(x.step)); !bytes.Equal(got, x.want) {
			t.Fatalf("P26.1: Frame of %v = %v; want %v", x.step, got, x.want)
		}
	}
	h.do(start(0))
	h.fill(0, mostRoots)
	if a := h.frame(global(0)); a != refuses(api.ErrCount) {
		t.Errorf("P26.1: Frame = %v", a)
	}
}

// TestFrameDone: Done and Credit, as many as can be, and beside an error.
func TestFrameDone(t *testing.T) {
	c := api.Config{Pages: 64, Threads: 1, Window: 64, Quantum: 1, Cap: 65535, Tax: 64, Chunk: 16, Stack: 4}
	h := newHeld(t, c, 1)
	h.to(sweeping)
	if a := h.frame(back(64)); a != worked(64) {
		t.Errorf("P26.1: Frame = %v", a)
	}
	h.to(sweeping)
	if a := h.frame(alloc(0, 127)); a != taxed(refers(1), 0, 64) {
		t.Errorf("P26.1: Frame = %v", a)
	}
	h = newHeld(t, usual(3, 1), 1)
	h.occupy(0, 0)
	h.to(tracing)
	h.do(back(1))
	if a := h.frame(alloc(0, 1)); a != taxed(refuses(api.ErrFull), 2, 1) {
		t.Errorf("P26.1: Frame = %v", a)
	}
}

// noSteps are octets that are no step's, and why.
func noSteps() map[string]api.Errno {
	l := map[string]api.Errno{}
	whole := octets(number(0, 3))
	for n := range 43 {
		if n != 14 {
			l[string(slices.Repeat(whole, 4)[:n])] = api.ErrSyntax
		}
	}
	for _, kind := range []byte{0, 18, 19, 128, 255} {
		b := slices.Clone(whole)
		b[0] = kind
		l[string(b)] = api.ErrKind
	}
	for kind := 1; kind <= lastKind; kind++ {
		for _, place := range []int{1, 2, 3, 4, 5, 6, 13} {
			b := octets(good(kind, 0))
			b[place]++
			x, e := code.Read(b)
			if e != api.OK && x == (api.Step{}) {
				l[string(b)] = api.ErrSyntax
			}
		}
	}
	return l
}

// TestFrameOfNoStep: octets that are no step's, in each phase: code.Read's error alone is Code, and nothing changes.
func TestFrameOfNoStep(t *testing.T) {
	l := noSteps()
	if len(l) < 100 {
		t.Fatalf("too few octets that are no step's: %d", len(l))
	}
	for _, phase := range []int{idle, on, scan, tracing, drain, sweeping} {
		c := usual(4, 2)
		c.Trigger = 64
		h := newHeld(t, c, 1)
		h.do(global(0))
		h.to(phase)
		was := h.told()
		for b, e := range l {
			if _, got := code.Read([]byte(b)); got != e {
				t.Fatalf("P26.1: Read(%v) has error %d; want %d", []byte(b), got, e)
			}
			if got := h.machine.Frame([]byte(b)); !bytes.Equal(got, answered(refuses(e))) {
				t.Fatalf("P26.1: Frame(%v) = %v", []byte(b), got)
			}
		}
		if got := h.machine.Frame(nil); !bytes.Equal(got, answered(refuses(api.ErrSyntax))) {
			t.Fatalf("P26.1: Frame(nil) = %v", got)
		}
		h.look("octets that are no step's")
		if h.told() != was {
			t.Fatalf("P26.1: behind octets that are no step's it is %v; it was %v", h.told(), was)
		}
	}
}

// TestFrameOfNone: of nil, or one that New did not make: the answer to a step is ErrState alone; to no step, code.Read's error.
func TestFrameOfNone(t *testing.T) {
	for name, m := range map[string]*machine.Machine{"nil": nil, "one that New did not make": {}} {
		for kind := 1; kind <= lastKind; kind++ {
			if got := m.Frame(octets(good(kind, 0))); !bytes.Equal(got, answered(refuses(api.ErrState))) {
				t.Errorf("P26.1: of %s, Frame of kind %d = %v", name, kind, got)
			}
		}
		for b, e := range noSteps() {
			if got := m.Frame([]byte(b)); !bytes.Equal(got, answered(refuses(e))) {
				t.Errorf("P26.1: of %s, Frame(%v) = %v", name, []byte(b), got)
			}
		}
	}
}
