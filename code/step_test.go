package code_test

import (
	"strings"
	"testing"

	"scutage/api"
	"scutage/code"
)

// putIs holds Check and Put against the plain ones, twice, with the octets written on.
func putIs(t *testing.T, x api.Step) {
	t.Helper()
	want := checked(x)
	if e := code.Check(x); e != want {
		t.Errorf("P24.1: Check(%+v) is %d, not %d", x, e, want)
	}
	for range 2 {
		b, e := code.Put(x)
		if e != want {
			t.Errorf("P24.1: Put(%+v) is %d, not %d", x, e, want)
		}
		if want != api.OK && len(b) != 0 {
			t.Errorf("P4: Put(%+v): octets %x beside an error", x, b)
		}
		if want == api.OK && string(b) != laid(x) {
			t.Errorf("P24.1: Put(%+v) is %x, not %x", x, b, laid(x))
		}
		scrawl(b)
	}
}

// scrawl writes on all octets that b may be grown to.
func scrawl(b []byte) {
	b = b[:cap(b)]
	for i := range b {
		b[i] ^= 0xa5
	}
}

// between is these octets as a slice amid others, which must stay.
func between(s string) (b []byte, kept func() bool) {
	all := []byte("<<<" + s + strings.Repeat(">", 40))
	was := string(all)
	return all[3 : 3+len(s)], func() bool { return string(all) == was }
}

// readIs holds Read of these octets against want and the error.
func readIs(t *testing.T, s string, want api.Step, code1 api.Errno) {
	t.Helper()
	for range 2 {
		b, kept := between(s)
		x, e := code.Read(b)
		if e != code1 || x != want {
			t.Errorf("P24.1: Read(%x) is %+v, %d, not %+v, %d", s, x, e, want, code1)
		}
		if !kept() {
			t.Errorf("P2: Read(%x) changed what it was handed", s)
		}
	}
}

// readAs holds Read of fourteen octets against the plain one.
func readAs(t *testing.T, s string) {
	t.Helper()
	x := read(s)
	e := checked(x)
	if e != api.OK {
		x = api.Step{}
	}
	readIs(t, s, x, e)
}

// TestExample: the chapter's.
func TestExample(t *testing.T) {
	b, e := code.Put(api.Step{Kind: 17})
	if e != api.OK || string(b) != "\x11"+strings.Repeat("\x00", 13) {
		t.Errorf("example 1: %x, %d", b, e)
	}
	if x, e := code.Read(b); e != api.OK || x != (api.Step{Kind: 17}) {
		t.Errorf("example 1: %+v, %d", x, e)
	}
}

// TestWrittenOut: octets that are counted by hand.
func TestWrittenOut(t *testing.T) {
	for _, c := range []struct {
		x api.Step
		s string
	}{
		{api.Step{Kind: 1, T: 7}, "\x01\x07\x00\x00\x00\x00\x00\x00\x00\x00\x00\x00\x00\x00"},
		{api.Step{Kind: 2, T: 255}, "\x02\xff\x00\x00\x00\x00\x00\x00\x00\x00\x00\x00\x00\x00"},
		{api.Step{Kind: 3, T: 1, N: 127, Cost: 9}, "\x03\x01\x00\x00\x00\x09\x00\x00\x00\x00\x00\x00\x00\x7f"},
		{api.Step{Kind: 4, T: 2, N: -1}, "\x04\x02\x00\x00\x00\x00\xff\xff\xff\xff\xff\xff\xff\xff"},
		{api.Step{Kind: 4, T: 2, N: -256}, "\x04\x02\x00\x00\x00\x00\xff\xff\xff\xff\xff\xff\xff\x00"},
		{api.Step{Kind: 4, N: least}, "\x04\x00\x00\x00\x00\x00\x80\x00\x00\x00\x00\x00\x00\x00"},
		{api.Step{Kind: 4, N: greatest}, "\x04\x00\x00\x00\x00\x00\x7f\xff\xff\xff\xff\xff\xff\xff"},
		{api.Step{Kind: 7, T: 3, I: 200}, "\x07\x03\xc8\x00\x00\x00\x00\x00\x00\x00\x00\x00\x00\x00"},
		{api.Step{Kind: 10, T: 1, I: 2, F: 3, J: 4}, "\x0a\x01\x02\x03\x04\x00\x00\x00\x00\x00\x00\x00\x00\x00"},
		{api.Step{Kind: 11, T: 1, I: 2, J: 4}, "\x0b\x01\x02\x00\x04\x00\x00\x00\x00\x00\x00\x00\x00\x00"},
		{api.Step{Kind: 15, T: 1, N: 0x0102030405060708, Cost: 255}, "\x0f\x01\x00\x00\x00\xff\x01\x02\x03\x04\x05\x06\x07\x08"},
		{api.Step{Kind: 16, N: 9}, "\x10\x00\x00\x00\x00\x00\x00\x00\x00\x00\x00\x00\x00\x09"},
	} {
		b, e := code.Put(c.x)
		if e != api.OK || string(b) != c.s {
			t.Errorf("P24.1: Put(%+v) is %x, %d", c.x, b, e)
		}
		if x, e := code.Read([]byte(c.s)); e != api.OK || x != c.x {
			t.Errorf("P24.1: Read(%x) is %+v, %d", c.s, x, e)
		}
	}
}

// TestHave: each kind with just the fields that it has, each with each other.
func TestHave(t *testing.T) {
	few := []int{0, 1, 128, 255}
	for kind := 1; kind <= mostKind; kind++ {
		l := []api.Step{{Kind: kind}}
		for _, f := range shorts {
			for _, x := range l {
				for _, n := range few {
					if have(kind, f) && n > 0 {
						l = append(l, set(x, f, n))
					}
				}
			}
		}
		for _, x := range l {
			if e := code.Check(x); e != api.OK {
				t.Errorf("P24.1: Check(%+v) is %d", x, e)
			}
			putIs(t, x)
		}
	}
}

// TestMayBe: steps that may be come back from their octets.
func TestMayBe(t *testing.T) {
	for _, x := range some() {
		putIs(t, x)
		b, e := code.Put(x)
		if e != api.OK || len(b) != size {
			t.Errorf("P24.1: Put(%+v) is %x, %d", x, b, e)
		}
		if back, e := code.Read(b); e != api.OK || back != x {
			t.Errorf("P24.2: %+v comes back as %+v, %d", x, back, e)
		}
	}
}

// TestHaveNot: each field that a kind has not, with each number of one octet; and N.
func TestHaveNot(t *testing.T) {
	for kind := 1; kind <= mostKind; kind++ {
		for _, f := range shorts {
			for n := 0; n <= mostOne && !have(kind, f); n++ {
				for _, x := range []api.Step{set(api.Step{Kind: kind}, f, n), set(full(kind), f, n)} {
					if e := code.Check(x); (e == api.OK) != (n == 0) || e != checked(x) {
						t.Errorf("P24.1: Check(%+v) is %d", x, e)
					}
				}
			}
		}
		for _, n := range whole() {
			x := full(kind)
			x.N = n
			e := code.Check(x)
			if have(kind, "N") && e != api.OK || !have(kind, "N") && e != api.ErrSyntax {
				t.Errorf("P24.1: Check(%+v) is %d", x, e)
			}
		}
	}
}

// TestMayNotBe: steps with a fault, or several: the kind's is told ahead of the range's, that ahead of the field's that the kind has not.
func TestMayNotBe(t *testing.T) {
	for _, x := range wrong() {
		if checked(x) == api.OK {
			t.Fatalf("%+v may be", x)
		}
		putIs(t, x)
	}
	for _, c := range []struct {
		x    api.Step
		want api.Errno
	}{
		{api.Step{}, api.ErrKind},
		{api.Step{Kind: 18, I: 256, N: 1}, api.ErrKind},
		{api.Step{Kind: -1, T: -1, Cost: 300}, api.ErrKind},
		{api.Step{Kind: 1 << 40, Cost: 300}, api.ErrKind},
		{api.Step{Kind: 17, I: 1, Cost: 256}, api.ErrRange},
		{api.Step{Kind: 17, T: 1, I: 1, F: 1, J: 1, Cost: -1, N: 1}, api.ErrRange},
		{api.Step{Kind: 17, T: 256, I: 1, F: 1, J: 1, Cost: 1, N: 1}, api.ErrRange},
		{api.Step{Kind: 1, T: 256, N: 1}, api.ErrRange},
		{api.Step{Kind: 1, T: -1}, api.ErrRange},
		{api.Step{Kind: 1, T: 255, N: 1}, api.ErrSyntax},
		{api.Step{Kind: 16, T: 255}, api.ErrSyntax},
		{api.Step{Kind: 16, N: 1 << 62}, api.OK},
		{api.Step{Kind: 11, T: 1, I: 1, F: 1, J: 1}, api.ErrSyntax},
		{api.Step{Kind: 9, T: 1, I: 1, F: 1, J: 1}, api.ErrSyntax},
		{api.Step{Kind: 10, T: 1, I: 1, F: 1, J: 1, Cost: 1}, api.ErrSyntax},
		{api.Step{Kind: 13, T: 1, N: 1, Cost: 1}, api.ErrSyntax},
	} {
		if e := code.Check(c.x); e != c.want {
			t.Errorf("P24.1: Check(%+v) is %d, not %d", c.x, e, c.want)
		}
	}
}

// TestReadLengths: octets that are not fourteen are no step's, whatever they are.
func TestReadLengths(t *testing.T) {
	if x, e := code.Read(nil); e != api.ErrSyntax || x != (api.Step{}) {
		t.Errorf("P24.1: Read(nil) is %+v, %d", x, e)
	}
	for n := range 60 {
		for _, s := range []string{"\x11", "\x01", "\x00", "\x04", "\x03\x01\x00\x00\x00\x04\x00\x00\x00\x00\x00\x00\x01\x02", "\xff"} {
			s = strings.Repeat(s+strings.Repeat("\x00", size-len(s)), 5)[:n]
			if n != size {
				readIs(t, s, api.Step{}, api.ErrSyntax)
			}
		}
	}
	readIs(t, strings.Repeat("\x04", 1<<20), api.Step{}, api.ErrSyntax)
}

// TestReadFaults: fourteen octets that are a step that may not be: Check's error, and the zero step.
func TestReadFaults(t *testing.T) {
	for k := range 256 {
		for at := range size {
			for _, c := range []int{0, 1, 2, 17, 18, 127, 128, 255} {
				b := make([]byte, size)
				b[at] = byte(c)
				b[0] = byte(k)
				readAs(t, string(b))
				if k > 0 && k <= mostKind {
					b = []byte(laid(full(k)))
					b[at] = byte(c)
					readAs(t, string(b))
				}
			}
		}
	}
	for _, c := range []struct {
		s    string
		want api.Errno
	}{
		{strings.Repeat("\x00", size), api.ErrKind},
		{strings.Repeat("\xff", size), api.ErrKind},
		{"\x12" + strings.Repeat("\x00", size-1), api.ErrKind},
		{"\x11" + strings.Repeat("\x00", size-2) + "\x01", api.ErrSyntax},
		{"\x11\x00\x00\x00\x00\x00\x80" + strings.Repeat("\x00", 7), api.ErrSyntax},
		{"\x08\x01\x01" + strings.Repeat("\x00", size-3), api.ErrSyntax},
	} {
		readIs(t, c.s, api.Step{}, c.want)
	}
}

// TestOctetsBack: octets that Read takes are Put's of what it tells.
func TestOctetsBack(t *testing.T) {
	r := rule(24)
	taken := 0
	for range 60000 {
		b := make([]byte, size)
		b[0] = byte(r.next(20))
		for range r.next(5) {
			b[r.next(size)] = byte(r.next(256))
		}
		s := string(b)
		readAs(t, s)
		x, e := code.Read(b)
		if e != api.OK {
			continue
		}
		taken++
		if back, e := code.Put(x); e != api.OK || string(back) != s {
			t.Errorf("P24.2: %x comes back as %x, %d", s, back, e)
		}
	}
	if taken < 5000 {
		t.Errorf("just %d were steps that may be", taken)
	}
}

// TestAnyStep: any steps, with any faults.
func TestAnyStep(t *testing.T) {
	r := rule(1)
	told := map[api.Errno]int{}
	for range 60000 {
		x := r.step()
		putIs(t, x)
		told[checked(x)]++
		if checked(x) != api.OK {
			continue
		}
		b, _ := code.Put(x)
		if back, e := code.Read(b); e != api.OK || back != x {
			t.Errorf("P24.2: %+v comes back as %+v, %d", x, back, e)
		}
	}
	for _, e := range []api.Errno{api.OK, api.ErrKind, api.ErrRange, api.ErrSyntax} {
		if told[e] < 1000 {
			t.Errorf("just %d steps with %d", told[e], e)
		}
	}
}
