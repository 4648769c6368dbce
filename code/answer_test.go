package code_test

import (
	"strings"
	"testing"

	"scutage/api"
	"scutage/code"
)

// mayTell tells whether an answer may be told.
func mayTell(a api.Answer) bool {
	return a.Code >= 0 && a.Code <= mostOne && a.Kind >= 0 && a.Kind <= mostOne && a.Done >= 0 && a.Done <= mostTwo && a.Credit >= 0 && a.Credit <= mostTwo
}

// tellIs holds Tell against the plain one, twice, with the octets written on, and Told behind it.
func tellIs(t *testing.T, a api.Answer) {
	t.Helper()
	want, octets := api.ErrRange, ""
	if mayTell(a) {
		want, octets = api.OK, sent(a)
	}
	for range 2 {
		b, e := code.Tell(a)
		if e != want || string(b) != octets {
			t.Errorf("P24.1: Tell(%+v) is %x, %d, not %x, %d", a, b, e, octets, want)
		}
		if e == api.OK {
			if back, e := code.Told(b); e != api.OK || back != a {
				t.Errorf("P24.2: %+v comes back as %+v, %d", a, back, e)
			}
		}
		scrawl(b)
	}
}

// toldIs holds Told against the plain one, twice, and Tell behind it.
func toldIs(t *testing.T, s string) {
	t.Helper()
	var want api.Answer
	errno := api.ErrSyntax
	if len(s) == size {
		want, errno = got(s), api.OK
	}
	for range 2 {
		b, kept := between(s)
		a, e := code.Told(b)
		if e != errno || a != want {
			t.Errorf("P24.1: Told(%.60x) is %+v, %d, not %+v, %d", s, a, e, want, errno)
		}
		if !kept() {
			t.Errorf("P2: Told(%.60x) changed what it was handed", s)
		}
		if e != api.OK {
			continue
		}
		if back, e := code.Tell(a); e != api.OK || string(back) != s {
			t.Errorf("P24.2: %x comes back as %x, %d", s, back, e)
		}
	}
}

// TestAnswersWrittenOut: octets that are counted by hand.
func TestAnswersWrittenOut(t *testing.T) {
	for _, c := range []struct {
		a api.Answer
		s string
	}{
		{api.Answer{}, strings.Repeat("\x00", size)},
		{api.Answer{Code: api.ErrSyntax}, "\x10" + strings.Repeat("\x00", size-1)},
		{api.Answer{Code: 21, Kind: 2, N: 258, Done: 259, Credit: 772}, "\x15\x02\x00\x00\x00\x00\x00\x00\x01\x02\x01\x03\x03\x04"},
		{api.Answer{Code: 255, Kind: 255, N: -1, Done: 65535, Credit: 65535}, strings.Repeat("\xff", size)},
		{api.Answer{Kind: 1, N: -2}, "\x00\x01\xff\xff\xff\xff\xff\xff\xff\xfe\x00\x00\x00\x00"},
		{api.Answer{N: least}, "\x00\x00\x80\x00\x00\x00\x00\x00\x00\x00\x00\x00\x00\x00"},
		{api.Answer{N: greatest}, "\x00\x00\x7f\xff\xff\xff\xff\xff\xff\xff\x00\x00\x00\x00"},
		{api.Answer{N: 0x0102030405060708}, "\x00\x00\x01\x02\x03\x04\x05\x06\x07\x08\x00\x00\x00\x00"},
		{api.Answer{Done: 256}, "\x00\x00\x00\x00\x00\x00\x00\x00\x00\x00\x01\x00\x00\x00"},
		{api.Answer{Done: 255}, "\x00\x00\x00\x00\x00\x00\x00\x00\x00\x00\x00\xff\x00\x00"},
		{api.Answer{Credit: 256}, "\x00\x00\x00\x00\x00\x00\x00\x00\x00\x00\x00\x00\x01\x00"},
		{api.Answer{Credit: 255}, "\x00\x00\x00\x00\x00\x00\x00\x00\x00\x00\x00\x00\x00\xff"},
	} {
		if b, e := code.Tell(c.a); e != api.OK || string(b) != c.s {
			t.Errorf("P24.1: Tell(%+v) is %x, %d", c.a, b, e)
		}
		if a, e := code.Told([]byte(c.s)); e != api.OK || a != c.a {
			t.Errorf("P24.1: Told(%x) is %+v, %d", c.s, a, e)
		}
	}
}

// about are answers like a, with each field in turn at each end, and between.
func about(a api.Answer) []api.Answer {
	var l []api.Answer
	for n := range 256 {
		x, y := a, a
		x.Code, y.Kind = api.Errno(n), n
		l = append(l, x, y)
	}
	for _, n := range append([]int{0, 256, 257, 511, 512, 4660, 32767, 32768, 32769, 65279, 65280, 65534, 65535}, bytesOf...) {
		x, y := a, a
		x.Done, y.Credit = n, n
		l = append(l, x, y)
	}
	for _, n := range whole() {
		x := a
		x.N = n
		l = append(l, x)
	}
	return l
}

// someAnswers are such as may be told.
var someAnswers = []api.Answer{{}, {Code: 3, Kind: 2, N: 1 << 50, Done: 770, Credit: 1029}, {Code: 255, Kind: 255, N: least, Done: 65535, Credit: 65535}, {Code: 1, N: greatest, Credit: 1}}

// TestTell: each field from its least to its greatest.
func TestTell(t *testing.T) {
	for _, a := range someAnswers {
		for _, x := range about(a) {
			if !mayTell(x) {
				t.Fatalf("%+v may not be told", x)
			}
			tellIs(t, x)
			toldIs(t, sent(x))
		}
	}
}

// TestTellRange: each field below its least and above its greatest, alone and with another.
func TestTellRange(t *testing.T) {
	var l []api.Answer
	for _, a := range someAnswers {
		for _, n := range notOne {
			x, y, z := a, a, a
			x.Code, y.Kind = api.Errno(n), n
			z.Code, z.Kind = api.Errno(n), n
			l = append(l, x, y, z)
		}
		for _, n := range notTwo {
			x, y, z := a, a, a
			x.Done, y.Credit = n, n
			z.Done, z.Credit = n, n
			l = append(l, x, y, z)
		}
	}
	for _, a := range l {
		for _, n := range []int64{a.N, 0, 5, -5, least, greatest} {
			a.N = n
			if b, e := code.Tell(a); e != api.ErrRange || len(b) != 0 {
				t.Errorf("P24.1: Tell(%+v) is %x, %d", a, b, e)
			}
			tellIs(t, a)
		}
	}
}

// TestToldLengths: octets that are not fourteen are no answer's.
func TestToldLengths(t *testing.T) {
	if a, e := code.Told(nil); e != api.ErrSyntax || a != (api.Answer{}) {
		t.Errorf("P24.1: Told(nil) is %+v, %d", a, e)
	}
	for n := range 60 {
		toldIs(t, strings.Repeat("\x00", n))
		toldIs(t, strings.Repeat("\x01\x02\xfd", 20)[:n])
	}
	toldIs(t, strings.Repeat("\xff", 1<<20))
}

// TestTold: any fourteen octets are an answer's.
func TestTold(t *testing.T) {
	for at := range size {
		for c := range 256 {
			b := make([]byte, size)
			b[at] = byte(c)
			toldIs(t, string(b))
			toldIs(t, strings.Repeat("\xff", at)+string(b[at:]))
			toldIs(t, string(b[:at+1])+strings.Repeat("\x80", size-1-at))
		}
	}
	r := rule(5)
	for range 30000 {
		b := make([]byte, size)
		for i := range b {
			b[i] = byte(r.next(256))
		}
		toldIs(t, string(b))
	}
}

// TestNothingElse: the same, asked again behind all others, is answered the same (P3).
func TestNothingElse(t *testing.T) {
	l := append(some(), wrong()...)
	told := func(x api.Step) string {
		b, e := code.Put(x)
		back, f := code.Read(b)
		p, g := code.Tell(api.Answer{Code: api.Errno(x.T), Kind: x.Kind, N: x.N, Done: x.I, Credit: x.Cost})
		a, h := code.Told(p)
		return string(b) + laid(back) + string(p) + sent(a) + string([]byte{byte(e), byte(f), byte(g), byte(h)})
	}
	var first []string
	for _, x := range l {
		first = append(first, told(x))
	}
	for i := len(l) - 1; i >= 0; i-- {
		if told(l[i]) != first[i] {
			t.Errorf("P3: of %+v another is told behind others", l[i])
		}
	}
}
