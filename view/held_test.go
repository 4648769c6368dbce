package view_test

import (
	"slices"
	"testing"

	"scutage/api"
	"scutage/view"
)

// scrawl writes on all of a list of values, and on the room behind.
func scrawl(l []api.Value) {
	for i := range l[:cap(l)] {
		l[:cap(l)][i] = odd(-88, 99)
	}
}

// scrawlAll writes on all that a view is made of.
func scrawlAll(v api.View) {
	for _, l := range lists(wide(v)) {
		scrawl(l)
	}
	for i := range v.Nodes[:cap(v.Nodes)] {
		v.Nodes[:cap(v.Nodes)][i] = node(-87, num(1))
	}
	for i := range v.Roots[:cap(v.Roots)] {
		v.Roots[:cap(v.Roots)][i] = list(num(2))
	}
}

// ask does a call, twice, and holds that the views that it was given stay.
func ask(t *testing.T, name string, call func(), given ...api.View) {
	t.Helper()
	var was [][]int64
	for _, v := range given {
		was = append(was, flat(wide(v)))
	}
	for range 2 {
		call()
		for i, v := range given {
			if !slices.Equal(flat(wide(v)), was[i]) {
				t.Fatalf("P2: %s changed what it was given", name)
			}
		}
	}
}

// same holds Same of both, in both orders.
func same(t *testing.T, a api.View, b api.View, want bool) {
	t.Helper()
	ask(t, "Same", func() {
		t.Helper()
		if got := view.Same(a, b); got != want {
			t.Fatalf("P27.1: Same(%v, %v) = %v", a, b, got)
		}
		if got := view.Same(b, a); got != want {
			t.Fatalf("P27.1: Same(%v, %v) = %v", b, a, got)
		}
	}, a, b)
}

// finds holds Find against the plain one; what it answers is written on.
func finds(t *testing.T, v api.View, serial int64) {
	t.Helper()
	var want api.Node
	i := first(v, serial)
	if i >= 0 {
		want = node(serial, slices.Clone(v.Nodes[i].Fields)...)
	}
	ask(t, "Find", func() {
		t.Helper()
		got, ok := view.Find(v, serial)
		if ok != (i >= 0) || !slices.Equal(flat(nodes(got)), flat(nodes(want))) {
			t.Fatalf("P27.1: Find(%v, %d) = %v, %v; want %v", v, serial, got, ok, want)
		}
		scrawl(got.Fields)
	}, v)
}

// checks holds Check.
func checks(t *testing.T, v api.View, want api.Errno) {
	t.Helper()
	ask(t, "Check", func() {
		t.Helper()
		if got := view.Check(v); got != want {
			t.Fatalf("P27.1: Check(%v) = %d; want %d", v, got, want)
		}
	}, v)
}

// reaches holds Reach; what it answers is written on.
func reaches(t *testing.T, v api.View, want ...int64) {
	t.Helper()
	ask(t, "Reach", func() {
		t.Helper()
		got := view.Reach(v)
		if !slices.Equal(got, want) {
			t.Fatalf("P27.1: Reach(%v) = %v; want %v", v, got, want)
		}
		for i := range got[:cap(got)] {
			got[:cap(got)][i] = -5
		}
	}, v)
}

// counts holds Words.
func counts(t *testing.T, v api.View, want int) {
	t.Helper()
	ask(t, "Words", func() {
		t.Helper()
		if got := view.Words(v); got != want {
			t.Fatalf("P27.1: Words(%v) = %d; want %d", v, got, want)
		}
	}, v)
}

// clones holds Clone: the same as v, apart from v, from another clone, and each of its lists from the others.
func clones(t *testing.T, v api.View) {
	t.Helper()
	want := flat(v)
	ask(t, "Clone", func() {
		t.Helper()
		c, other := view.Clone(v), view.Clone(v)
		if !slices.Equal(flat(c), want) {
			t.Fatalf("P27.1: Clone(%v) = %v", v, c)
		}
		sole(t, other)
		other = view.Clone(v)
		scrawlAll(c)
		if !slices.Equal(flat(other), want) {
			t.Fatalf("P2: two of Clone(%v) share something", v)
		}
	}, v)
}

// sole holds that no two lists of v share anything, nor any room behind: each is written on and must leave all others as they are.
func sole(t *testing.T, v api.View) {
	t.Helper()
	all := lists(wide(v))
	for i, l := range all {
		var was [][]api.Value
		for _, x := range all {
			was = append(was, slices.Clone(x))
		}
		scrawl(l)
		for j, x := range all {
			if j != i && !slices.Equal(x, was[j]) {
				t.Fatalf("P2: lists %d and %d of one answer share something", i, j)
			}
		}
	}
}

// look holds all calls on v against the plain ones, also on v without the room behind its lists.
func look(t *testing.T, v api.View) {
	t.Helper()
	for _, v := range []api.View{v, copied(v)} {
		checks(t, v, checked(v))
		reaches(t, v, reached(v)...)
		counts(t, v, words(v))
		clones(t, v)
		same(t, v, v, true)
		same(t, v, copied(v), true)
		for _, serial := range []int64{0, 1, -1, least, greatest} {
			finds(t, v, serial)
		}
		for _, n := range v.Nodes[:min(len(v.Nodes), 20)] {
			finds(t, v, n.Serial)
			finds(t, v, n.Serial+1)
		}
	}
}
