package view_test

import (
	"slices"
	"testing"

	"scutage/api"
)

// rule makes numbers that look like any.
type rule int64

func (r *rule) next(n int) int {
	*r = *r*6364136223846793005 + 1442695040888963407
	return int(uint64(*r)>>33) % n
}

// one is any of these.
func one[E any](r *rule, l ...E) E {
	return l[r.next(len(l))]
}

// seldom is true once in n times.
func (r *rule) seldom(n int) bool { return r.next(n) == 0 }

// serials are those of n nodes: most often such as rise.
func (r *rule) serials(n int) []int64 {
	var l []int64
	next := one[int64](r, 0, 0, 0, 0, 1, -2, -1<<40, least)
	for range n {
		l = append(l, next)
		next += one[int64](r, 1, 1, 1, 2, 5, 1<<32)
	}
	if n > 0 && r.seldom(3) {
		// Rising no more: another order, or some of them twice.
		for range 1 + r.next(3) {
			i, j := r.next(n), r.next(n)
			l[i], l[j] = l[j], one(r, l[i], l[j], l[i]+1)
		}
	}
	return l
}

// value is any one; references lead to one of these serials, but if it is spoilt.
func (r *rule) value(serials []int64, wild bool) api.Value {
	switch r.next(5) {
	case 0:
		return nothing()
	case 1:
		return num(one(r, int64(r.next(12)), 0, -1, least, greatest))
	}
	if wild && r.seldom(12) {
		return one(r, unvalued()...)
	}
	if len(serials) == 0 || wild && r.seldom(12) {
		return one(r, num(3), ref(int64(r.next(30)-3)), ref(greatest))
	}
	return ref(one(r, serials...))
}

// values are as many as n, or fewer.
func (r *rule) values(n int, serials []int64, wild bool) []api.Value {
	var l []api.Value
	for range r.next(n + 1) {
		l = append(l, r.value(serials, wild))
	}
	return l
}

// view is any one: as often as not one without wild values, or without those nodes that can't be reached.
func (r *rule) view() api.View {
	var v api.View
	serials := r.serials(r.next(14))
	wild, dense := r.seldom(2), one(r, 1, 2, 4)
	for range r.next(6) {
		v.Roots = append(v.Roots, r.values(dense, serials, wild))
	}
	for _, serial := range serials {
		v.Nodes = append(v.Nodes, node(serial, r.values(dense, serials, wild)...))
	}
	if r.seldom(2) {
		v.Nodes = slices.DeleteFunc(v.Nodes, func(n api.Node) bool { return !slices.Contains(reached(v), n.Serial) })
	}
	return v
}

// near is v with something changed, or not.
func (r *rule) near(v api.View) api.View {
	v = copied(v)
	n := len(v.Nodes)
	l := lists(v)
	switch r.next(7) {
	case 0:
		if n > 0 {
			v.Nodes[r.next(n)].Serial += one[int64](r, 1, -1, 0)
		}
	case 1:
		if n > 0 {
			i, j := r.next(n), r.next(n)
			v.Nodes[i], v.Nodes[j] = v.Nodes[j], v.Nodes[i]
		}
	case 2:
		if n > 0 {
			i := r.next(n)
			v.Nodes[i].Fields = append(v.Nodes[i].Fields, nothing())
		}
	case 3:
		v.Roots = append(v.Roots, r.values(1, nil, true))
	case 4, 5:
		if len(l) > 0 {
			if values := one(r, l...); len(values) > 0 {
				values[r.next(len(values))] = r.value(nil, true)
			}
		}
	}
	return v
}

// TestScripts: many views of any plain numbers, and what is near each, held against the plain lists.
func TestScripts(t *testing.T) {
	met, alike, parts := map[api.Errno]int{}, map[bool]int{}, map[bool]int{}
	for i := range 2500 {
		r := rule(i*7919 + 1)
		v := r.view()
		look(t, v)
		met[checked(v)]++
		n := len(reached(v))
		parts[n > 0 && n < len(v.Nodes)]++
		for range 4 {
			w := r.near(v)
			equal := slices.Equal(flat(v), flat(w))
			alike[equal]++
			same(t, v, w, equal)
			checks(t, w, checked(w))
			reaches(t, w, reached(w)...)
		}
		if len(v.Nodes) > 0 {
			finds(t, v, one(&r, v.Nodes...).Serial)
		}
		finds(t, v, int64(r.next(40)-4))
	}
	for _, e := range []api.Errno{api.OK, api.ErrState, api.ErrRange, api.ErrNone, api.ErrFull} {
		if met[e] < 80 {
			t.Errorf("of the views, too few had the error %d: %d", e, met[e])
		}
	}
	if alike[true] < 200 || alike[false] < 200 || parts[true] < 200 || parts[false] < 200 {
		t.Errorf("the views tell too little: %v, %v", alike, parts)
	}
}

// TestScriptsNear: one change behind the other, from views without a fault on.
func TestScriptsNear(t *testing.T) {
	for i := range 100 {
		r := rule(i*104729 + 3)
		v := sound()
		for range 25 {
			v = r.near(v)
			look(t, v)
		}
	}
}
