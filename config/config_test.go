package config_test

import (
	"bytes"
	"math"
	"testing"

	"scutage/api"
	"scutage/config"
)

const errorf = "%s: %s(%+v) = %v; want %v"

// field is one of a config's fields: its place, from where to where the chapter lets it be, and how it is set.
type field struct {
	name        string
	least, most int
	set         func(c *api.Config, n int)
}

// fields are written out by the chapter, not taken from the program.
func fields() []field {
	return []field{
		{"Pages", 2, 64, func(c *api.Config, n int) { c.Pages = n }},
		{"Threads", 1, 8, func(c *api.Config, n int) { c.Threads = n }},
		{"Window", 1, 64, func(c *api.Config, n int) { c.Window = n }},
		{"Quantum", 1, 16, func(c *api.Config, n int) { c.Quantum = n }},
		{"Target", 0, 1000, func(c *api.Config, n int) { c.Target = n }},
		{"Cap", 0, 65535, func(c *api.Config, n int) { c.Cap = n }},
		{"Tax", 0, 64, func(c *api.Config, n int) { c.Tax = n }},
		{"Chunk", 1, 16, func(c *api.Config, n int) { c.Chunk = n }},
		{"Stack", 1, 256, func(c *api.Config, n int) { c.Stack = n }},
		{"Trigger", 0, 64, func(c *api.Config, n int) { c.Trigger = n }},
	}
}

// roomy is a config whose window suffices for each quantum.
func roomy() api.Config {
	return api.Config{Pages: 9, Threads: 3, Window: 64, Quantum: 1, Target: 0, Cap: 7, Tax: 5, Chunk: 2, Stack: 8, Trigger: 6}
}

// least is the config with the least of each field.
func least() api.Config {
	return api.Config{Pages: 2, Threads: 1, Window: 1, Quantum: 1, Target: 0, Cap: 0, Tax: 0, Chunk: 1, Stack: 1, Trigger: 0}
}

// greatest is the config with the greatest of each field, but for the target, which would leave nothing.
func greatest() api.Config {
	return api.Config{Pages: 64, Threads: 8, Window: 64, Quantum: 16, Target: 750, Cap: 65535, Tax: 64, Chunk: 16, Stack: 256, Trigger: 64}
}

// mayBe are configs that may be, with how many ticks of a window may be the collector's, and their words.
func mayBe() []struct {
	c           api.Config
	most, words int
	octets      []byte
} {
	return []struct {
		c           api.Config
		most, words int
		octets      []byte
	}{
		{config.Usual(), 6, 512, []byte{0, 16, 0, 4, 0, 20, 0, 4, 2, 188, 0, 100, 0, 4, 0, 4, 0, 16, 0, 4}},
		{least(), 1, 64, []byte{0, 2, 0, 1, 0, 1, 0, 1, 0, 0, 0, 0, 0, 0, 0, 1, 0, 1, 0, 0}},
		{greatest(), 16, 2048, []byte{0, 64, 0, 8, 0, 64, 0, 16, 2, 238, 255, 255, 0, 64, 0, 16, 1, 0, 0, 64}},
		{roomy(), 64, 288, []byte{0, 9, 0, 3, 0, 64, 0, 1, 0, 0, 0, 7, 0, 5, 0, 2, 0, 8, 0, 6}},
		// 64 times 16 is 1024: rounded down, not up, and not to the nearest.
		{api.Config{Pages: 3, Threads: 2, Window: 64, Quantum: 1, Target: 984, Cap: 258, Chunk: 1, Stack: 255}, 1, 96,
			[]byte{0, 3, 0, 2, 0, 64, 0, 1, 3, 216, 1, 2, 0, 0, 0, 1, 0, 255, 0, 0}},
		// 3 times 999 is 2997.
		{api.Config{Pages: 63, Threads: 8, Window: 3, Quantum: 2, Target: 1, Cap: 65280, Tax: 63, Chunk: 15, Stack: 256, Trigger: 63}, 2, 2016,
			[]byte{0, 63, 0, 8, 0, 3, 0, 2, 0, 1, 255, 0, 0, 63, 0, 15, 1, 0, 0, 63}},
	}
}

// checkWrong asks every call about a config of which Wrong must answer place.
func checkWrong(t *testing.T, c api.Config, place int) {
	t.Helper()
	if got := config.Wrong(c); got != place {
		t.Errorf(errorf, "P2.1", "Wrong", c, got, place)
	}
	want := api.OK
	if place != 0 {
		want = api.ErrConfig
	}
	if got := config.Check(c); got != want {
		t.Errorf(errorf, "P2.1", "Check", c, got, want)
	}
	b, e := config.Octets(c)
	if e != want {
		t.Errorf(errorf, "P2.1", "Octets", c, e, want)
	}
	if place == 0 {
		if back, e := config.Read(b); e != api.OK || back != c {
			t.Errorf(errorf, "P2.2", "Read(Octets)", c, back, c)
		}
		return
	}
	if len(b) != 0 {
		t.Errorf(errorf, "P4", "Octets", c, b, "none beside an error")
	}
	if got := config.Most(c); got != 0 {
		t.Errorf(errorf, "P2.1", "Most", c, got, 0)
	}
	if got := config.Words(c); got != 0 {
		t.Errorf(errorf, "P2.1", "Words", c, got, 0)
	}
}

func TestUsual(t *testing.T) {
	want := api.Config{Pages: 16, Threads: 4, Window: 20, Quantum: 4, Target: 700, Cap: 100, Tax: 4, Chunk: 4, Stack: 16, Trigger: 4}
	if got := config.Usual(); got != want {
		t.Errorf("P2.1: Usual() = %+v; want %+v", got, want)
	}
	checkWrong(t, config.Usual(), 0)
}

func TestConfigsThatMayBe(t *testing.T) {
	for _, m := range mayBe() {
		checkWrong(t, m.c, 0)
		if got := config.Most(m.c); got != m.most {
			t.Errorf(errorf, "P2.1", "Most", m.c, got, m.most)
		}
		if got := config.Words(m.c); got != m.words {
			t.Errorf(errorf, "P2.1", "Words", m.c, got, m.words)
		}
		if got, e := config.Octets(m.c); e != api.OK || !bytes.Equal(got, m.octets) {
			t.Errorf(errorf, "P2.1", "Octets", m.c, got, m.octets)
		}
		if got, e := config.Read(m.octets); e != api.OK || got != m.c {
			t.Errorf(errorf, "P2.2", "Read", m.octets, got, m.c)
		}
	}
}

func TestEndsOfFields(t *testing.T) {
	for i, f := range fields() {
		ends := []int{f.least, f.least + 1, f.most, f.least - 1, f.most + 1, -1, -f.most}
		// Numbers that two octets, or four, can't hold, and what is left of them when they are cut.
		far := []int{1 << 16, 1<<16 + f.least + 1, 1<<32 + f.least + 1, math.MaxInt, math.MinInt}
		for _, n := range append(ends, far...) {
			want := 0
			if n < f.least || n > f.most {
				want = i + 1
			} else if f.name == "Target" && n == f.most {
				// In its span, but such a target leaves the collector nothing.
				want = 11
			}
			c := roomy()
			f.set(&c, n)
			checkWrong(t, c, want)
		}
	}
}

func TestFirstWrongFieldIsTold(t *testing.T) {
	l := fields()
	for i, first := range l {
		for j, second := range l[i+1:] {
			for _, n := range []struct{ a, b int }{
				{first.least - 1, second.least - 1},
				{first.least - 1, second.most + 1},
				{first.most + 1, second.least - 1},
				{first.most + 1, second.most + 1},
			} {
				c := roomy()
				first.set(&c, n.a)
				second.set(&c, n.b)
				if got := config.Wrong(c); got != i+1 {
					t.Errorf("P2.1: Wrong(%+v) = %d; want %d, not %d", c, got, i+1, i+j+2)
				}
			}
		}
	}
	checkWrong(t, api.Config{}, 1)
	// A field after the target is told ahead of a window that leaves too little.
	for i, f := range l {
		c := roomy()
		c.Target = 1000
		f.set(&c, f.most+1)
		checkWrong(t, c, i+1)
	}
}

func TestWindowsThatJustSuffice(t *testing.T) {
	for _, w := range []struct {
		window, quantum, target int
		want                    int
	}{
		{1, 1, 0, 0},
		{1, 1, 1, 11},
		{2, 1, 500, 0},
		{2, 1, 501, 11},
		{3, 1, 666, 0},
		{3, 1, 667, 11},
		{20, 6, 700, 0},
		{20, 7, 700, 11},
		{20, 6, 701, 11},
		{19, 6, 700, 11},
		{16, 16, 0, 0},
		{15, 16, 0, 11},
		{16, 16, 1, 11},
		{64, 16, 750, 0},
		{63, 16, 750, 11},
		{64, 16, 751, 11},
		{64, 1, 984, 0},
		{64, 1, 985, 11},
		{64, 1, 1000, 11},
		{1, 1, 1000, 11},
	} {
		c := config.Usual()
		c.Window, c.Quantum, c.Target = w.window, w.quantum, w.target
		checkWrong(t, c, w.want)
	}
}

func TestReadOfWrongOctets(t *testing.T) {
	good, _ := config.Octets(config.Usual())
	wrong := func(b []byte, why string) {
		t.Helper()
		if c, e := config.Read(b); e != api.ErrSyntax || c != (api.Config{}) {
			t.Errorf("P2.1: Read(%v) = %+v, %d; want nothing and %d: %s", b, c, e, api.ErrSyntax, why)
		}
	}
	wrong(nil, "none")
	wrong([]byte{}, "none")
	for n := range good {
		wrong(good[:n], "too few")
		wrong(good[n+1:], "too few")
	}
	wrong(append(bytes.Clone(good), 0), "one too many")
	wrong(append([]byte{0}, good...), "one too many")
	wrong(append(bytes.Clone(good), good...), "too many")
	wrong(make([]byte, 20), "of no config that may be")
	wrong(bytes.Repeat([]byte{255}, 20), "of no config that may be")
	for i, f := range fields() {
		for _, n := range []int{f.least - 1, f.most + 1, 65535} {
			if n < 0 || n > 65535 || f.name == "Cap" {
				continue
			}
			b := bytes.Clone(good)
			b[2*i], b[2*i+1] = byte(n/256), byte(n%256)
			wrong(b, f.name)
		}
		if f.name != "Cap" {
			b := bytes.Clone(good)
			b[2*i] += 16
			wrong(b, "the higher octet of "+f.name)
		}
	}
	b := bytes.Clone(good)
	b[5] = 3
	wrong(b, "a window that leaves too little")
}

func TestThereAndBack(t *testing.T) {
	// A rule, not chance: each field goes round its span at a pace of its own.
	n := 0
	for k := range 20000 {
		var c api.Config
		for i, f := range fields() {
			f.set(&c, f.least+(k*(2*i+1)*7919+k/(i+1))%(f.most-f.least+1))
		}
		place := config.Wrong(c)
		if enough := c.Window*(1000-c.Target) >= 1000*c.Quantum; enough != (place == 0) || !enough && place != 11 {
			t.Fatalf("P2.1: Wrong(%+v) = %d", c, place)
		}
		b, e := config.Octets(c)
		if place != 0 {
			continue
		}
		n++
		if back, e2 := config.Read(b); e != api.OK || e2 != api.OK || back != c {
			t.Fatalf("P2.2: %+v came back as %+v", c, back)
		}
	}
	if n < 1000 {
		t.Fatalf("P2.2: only %d configs were tried", n)
	}
}

func TestOctetsComeBack(t *testing.T) {
	// From each octet of octets that are read, each other value: whatever is read must come back as it was.
	n := 0
	for _, m := range mayBe() {
		for i := range m.octets {
			for v := range 256 {
				b := bytes.Clone(m.octets)
				b[i] = byte(v)
				c, e := config.Read(b)
				if e != api.OK {
					if e != api.ErrSyntax || c != (api.Config{}) {
						t.Fatalf("P2.1: Read(%v) = %+v, %d", b, c, e)
					}
					continue
				}
				n++
				back, e := config.Octets(c)
				if e != api.OK || !bytes.Equal(back, b) {
					t.Fatalf("P2.2: octets %v came back as %v", b, back)
				}
			}
		}
	}
	if n < 1000 {
		t.Fatalf("P2.2: only %d lists of octets were read", n)
	}
}

func TestQuantumFits(t *testing.T) {
	for window := 1; window <= 64; window++ {
		for target := 0; target <= 1000; target++ {
			for quantum := 1; quantum <= 16; quantum++ {
				c := config.Usual()
				c.Window, c.Target, c.Quantum = window, target, quantum
				most := config.Most(c)
				if config.Check(c) != api.OK {
					if most != 0 {
						t.Fatalf("P2.1: Most(%+v) = %d; want 0", c, most)
					}
					continue
				}
				room := window * (1000 - target)
				if most < quantum {
					t.Fatalf("P2.2: Most(%+v) = %d, below its quantum", c, most)
				}
				if 1000*most > room || 1000*(most+1) <= room {
					t.Fatalf("P2.1: Most(%+v) = %d", c, most)
				}
			}
		}
	}
}

func TestMemory(t *testing.T) {
	c := config.Usual()
	one, _ := config.Octets(c)
	two, _ := config.Octets(c)
	for i := range one {
		one[i]++
	}
	if three, _ := config.Octets(c); !bytes.Equal(two, three) {
		t.Error("P2: two answers of Octets share memory")
	}
	given := bytes.Clone(two)
	before, e := config.Read(given)
	if e != api.OK || !bytes.Equal(given, two) {
		t.Error("P2: Read changed what it was given")
	}
	clear(given)
	if before != c {
		t.Error("P2: Read kept what it was given")
	}
}
