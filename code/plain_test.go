package code_test

import (
	"encoding/binary"
	"math"
	"strings"

	"scutage/api"
)

const (
	least     = math.MinInt64
	greatest  = math.MaxInt64
	mostKind  = 17
	mostOne   = 255
	mostTwo   = 65535
	mostSteps = 256
	size      = 14
)

// kinds are the chapter's: each kind's fields, at its place.
var kinds = []string{"", "T", "T", "T N Cost", "T N", "T", "T", "T I", "T", "T I F", "T I F J", "T I J", "T I", "T N", "T", "T N Cost", "N", ""}

// shorts are the names of the fields that are numbers of one octet.
var shorts = []string{"T", "I", "F", "J", "Cost"}

// bytesOf are such as one octet may be: next to each end, and where a bit is all alone.
var bytesOf = []int{0, 1, 2, 7, 13, 17, 18, 64, 127, 128, 129, 200, 254, 255}

// notOne are numbers that are not one octet: next to each end, such as are one when cut short, and as far out as can be.
var notOne = []int{-1, -2, -127, -128, -129, -255, -256, -257, 256, 257, 258, 273, 511, 512, 1 << 16, 1<<16 + 1, 1<<31 - 1, 1 << 31, 1 << 32, 1<<32 + 5, -1 << 31, -1 << 32, -1<<32 + 5, 1 << 62, greatest, greatest - 255, least, least + 1, least + 255}

// notTwo are numbers that are not two octets.
var notTwo = []int{-1, -2, -255, -256, -257, -32768, -32769, -65535, -65536, -65537, 65536, 65537, 65792, 1 << 17, 1<<31 - 1, 1 << 31, 1 << 32, 1<<32 + 5, -1 << 31, -1 << 32, -1<<32 + 5, 1 << 62, greatest, greatest - 65535, least, least + 1, least + 65535}

// notKind are kinds that are none: among them such as are one when cut short.
var notKind = []int{0, 18, -1, -2, -16, -17, -18, -128, 19, 20, 31, 32, 127, 128, 255, 256, 257, 259, 256 + 17, -255, -253, 1 << 16, 1<<16 + 3, 1 << 32, 1<<32 + 3, -1<<32 + 3, 1 << 62, greatest, greatest - 3, least, least + 1, least + 17}

// whole are numbers of all sizes, not one 0: each octet alone, all octets unlike, next to each power of two.
func whole() []int64 {
	l := []int64{greatest, least, greatest - 1, least + 1, 0x0102030405060708, -0x0102030405060708, 0x7f00000000000080, 258, -258, 1<<40 - 1, 1 << 40, -1 << 40}
	for i := range 63 {
		l = append(l, 1<<i, -1<<i, 1<<i+1, -1<<i-1)
		if i > 0 {
			l = append(l, 1<<i-1, -1<<i+1)
		}
	}
	return l
}

// field is x's field of that name.
func field(x *api.Step, name string) *int {
	return map[string]*int{"Kind": &x.Kind, "T": &x.T, "I": &x.I, "F": &x.F, "J": &x.J, "Cost": &x.Cost}[name]
}

// set is x with this field being n.
func set(x api.Step, name string, n int) api.Step {
	*field(&x, name) = n
	return x
}

// get is the field of that name.
func get(x api.Step, name string) int {
	return *field(&x, name)
}

// have tells whether steps of this kind have the field of that name.
func have(kind int, name string) bool {
	for _, f := range strings.Fields(kinds[kind]) {
		if f == name {
			return true
		}
	}
	return false
}

// checked is what Check is to answer.
func checked(x api.Step) api.Errno {
	if x.Kind < 1 || x.Kind > mostKind {
		return api.ErrKind
	}
	for _, f := range shorts {
		if get(x, f) < 0 || get(x, f) > mostOne {
			return api.ErrRange
		}
	}
	for _, f := range shorts {
		if get(x, f) != 0 && !have(x.Kind, f) {
			return api.ErrSyntax
		}
	}
	if x.N != 0 && !have(x.Kind, "N") {
		return api.ErrSyntax
	}
	return api.OK
}

// laid is the octets of a step whose fields have one octet, or eight.
func laid(x api.Step) string {
	b := []byte{byte(x.Kind), byte(x.T), byte(x.I), byte(x.F), byte(x.J), byte(x.Cost)}
	return string(binary.BigEndian.AppendUint64(b, uint64(x.N)))
}

// read is the step of fourteen octets.
func read(b string) api.Step {
	return api.Step{Kind: int(b[0]), T: int(b[1]), I: int(b[2]), F: int(b[3]), J: int(b[4]), Cost: int(b[5]), N: int64(binary.BigEndian.Uint64([]byte(b[6:])))}
}

// sent is the octets of an answer whose fields have as many octets as they may.
func sent(a api.Answer) string {
	b := binary.BigEndian.AppendUint64([]byte{byte(a.Code), byte(a.Kind)}, uint64(a.N))
	b = binary.BigEndian.AppendUint16(b, uint16(a.Done))
	return string(binary.BigEndian.AppendUint16(b, uint16(a.Credit)))
}

// got is the answer of fourteen octets.
func got(b string) api.Answer {
	l := []byte(b)
	return api.Answer{
		Code:   api.Errno(l[0]),
		Kind:   int(l[1]),
		N:      int64(binary.BigEndian.Uint64(l[2:])),
		Done:   int(binary.BigEndian.Uint16(l[10:])),
		Credit: int(binary.BigEndian.Uint16(l[12:])),
	}
}

// full is a step of this kind, each field that it has unlike the others, and none 0.
func full(kind int) api.Step {
	x := api.Step{Kind: kind}
	for i, f := range shorts {
		if have(kind, f) {
			x = set(x, f, 255-i*50)
		}
	}
	if have(kind, "N") {
		x.N = -0x0123456789abcdef
	}
	return x
}

// some are steps that may be, of each kind.
func some() []api.Step {
	var l []api.Step
	for kind := 1; kind <= mostKind; kind++ {
		l = append(l, api.Step{Kind: kind}, full(kind))
		for _, f := range shorts {
			for _, n := range bytesOf {
				if have(kind, f) {
					l = append(l, set(api.Step{Kind: kind}, f, n), set(full(kind), f, n))
				}
			}
		}
		for _, n := range whole() {
			if have(kind, "N") {
				x := full(kind)
				x.N = n
				l = append(l, x)
			}
		}
	}
	return l
}

// wrong are steps that may not be: for each fault alone, and several at once.
func wrong() []api.Step {
	var l []api.Step
	for _, kind := range notKind {
		l = append(l, api.Step{Kind: kind}, api.Step{Kind: kind, I: 256, N: 1}, api.Step{Kind: kind, T: 1, Cost: -1})
	}
	for kind := 1; kind <= mostKind; kind++ {
		for _, f := range shorts {
			for _, n := range notOne {
				x := set(full(kind), f, n)
				l = append(l, set(api.Step{Kind: kind}, f, n), x)
				x.F, x.N = 3, 9
				l = append(l, set(x, f, n))
			}
			if !have(kind, f) {
				l = append(l, set(api.Step{Kind: kind}, f, 1), set(full(kind), f, 255), set(full(kind), f, 128))
			}
		}
		if !have(kind, "N") {
			for _, n := range whole() {
				x := full(kind)
				x.N = n
				l = append(l, api.Step{Kind: kind, N: n}, x)
			}
		}
	}
	return l
}

// rule makes numbers that look like any.
type rule int64

func (r *rule) next(n int) int {
	*r = *r*6364136223846793005 + 1442695040888963407
	return int(uint64(*r)>>33) % n
}

// step is any one: as often as not one that may be.
func (r *rule) step() api.Step {
	x := api.Step{Kind: r.next(mostKind) + 1}
	for _, f := range shorts {
		if have(x.Kind, f) {
			x = set(x, f, r.next(256))
		}
	}
	if have(x.Kind, "N") {
		x.N = r.whole()
	}
	for r.next(2) == 0 {
		x = r.spoilt(x)
	}
	return x
}

// whole is any number, of any size.
func (r *rule) whole() int64 {
	return int64(uint64(r.next(1<<31))<<33^uint64(r.next(1<<31))<<10^uint64(r.next(1<<31))) >> r.next(64)
}

// spoilt is x with a field changed.
func (r *rule) spoilt(x api.Step) api.Step {
	switch r.next(6) {
	case 0:
		return set(x, "Kind", notKind[r.next(len(notKind))])
	case 1, 2:
		return set(x, shorts[r.next(len(shorts))], notOne[r.next(len(notOne))])
	case 3, 4:
		return set(x, shorts[r.next(len(shorts))], r.next(256))
	}
	x.N = r.whole()
	return x
}
