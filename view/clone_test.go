package view_test

import (
	"slices"
	"testing"

	"scutage/api"
	"scutage/view"
)

// TestWords: of each node 1, and its fields; roots are not counted.
func TestWords(t *testing.T) {
	counts(t, api.View{}, 0)
	counts(t, nodes(node(0, nothing(), nothing(), nothing(), nothing())), 5)
	counts(t, nodes(node(0)), 1)
	counts(t, nodes(node(7, num(1))), 2)
	counts(t, nodes(node(0), node(1), node(2)), 3)
	counts(t, nodes(node(0, num(1)), node(1), node(2, ref(0), nothing(), num(9))), 7)
	counts(t, rooted([]int64{1, 2, 3}), 0)
	counts(t, rooted([]int64{1, 2, 3}, node(5, odd(9, 9), ref(77))), 3)
	// Those that can't be reached, and those of one serial, count as all do.
	counts(t, nodes(node(3, num(1)), node(3, num(1)), node(3), node(1, ref(1))), 7)
	for n := range 300 {
		v := nodes(node(0, make([]api.Value, n)...), node(1), node(2, make([]api.Value, 2*n)...))
		counts(t, v, 3+3*n)
		counts(t, copied(v), 3+3*n)
	}
	var v api.View
	for n := range 120 {
		counts(t, v, n*(n+1)/2)
		v.Nodes = append(v.Nodes, node(int64(n), make([]api.Value, n)...))
	}
}

// TestClone: of all kinds of views, whole and with faults.
func TestClone(t *testing.T) {
	for _, v := range append(unlike(), sound(), api.View{Roots: make([][]api.Value, 8), Nodes: make([]api.Node, 9)}) {
		clones(t, v)
		clones(t, copied(v))
		c := view.Clone(v)
		same(t, c, v, true)
		same(t, view.Clone(c), v, true)
	}
}

// change is a way to write on a view.
type change func(v *api.View)

// changes are ways to write on all that the view sound has.
func changes() []change {
	l := []change{
		func(v *api.View) { v.Roots = nil },
		func(v *api.View) { v.Nodes = nil },
		func(v *api.View) { v.Roots[1] = list(num(3)) },
		func(v *api.View) { v.Nodes[2] = node(4) },
		func(v *api.View) { v.Roots = append(v.Roots, nil) },
		func(v *api.View) { v.Nodes = append(v.Nodes, node(10)) },
		func(v *api.View) { slices.Reverse(v.Nodes) },
		func(v *api.View) { slices.Reverse(v.Roots) },
		func(v *api.View) { clear(v.Roots[0]) },
		func(v *api.View) { clear(v.Nodes[0].Fields) },
	}
	for i := range sound().Roots {
		l = append(l, func(v *api.View) { v.Roots[i] = append(v.Roots[i], num(40)) })
		for j := range sound().Roots[i] {
			l = append(l, func(v *api.View) { v.Roots[i][j].N++ }, func(v *api.View) { v.Roots[i][j].Kind++ })
		}
	}
	for i := range sound().Nodes {
		l = append(l, func(v *api.View) { v.Nodes[i].Serial++ }, func(v *api.View) { v.Nodes[i].Fields = append(v.Nodes[i].Fields, num(40)) })
		for j := range sound().Nodes[i].Fields {
			l = append(l, func(v *api.View) { v.Nodes[i].Fields[j].N++ }, func(v *api.View) { v.Nodes[i].Fields[j].Kind++ })
		}
	}
	return l
}

// TestCloneApart: what is written on the one is not told by the other, from both sides, and of clones of clones.
func TestCloneApart(t *testing.T) {
	for i, write := range changes() {
		for _, v := range []api.View{sound(), copied(sound())} {
			c := view.Clone(v)
			d := view.Clone(c)
			all := []*api.View{&v, &c, &d}
			for _, x := range slices.Backward(all) {
				write(x)
				for _, y := range all {
					if x == y && view.Same(*y, sound()) {
						t.Errorf("P27.1: change %d is not told by the view that it was written on", i)
					}
				}
				count := 0
				for _, y := range all {
					if view.Same(*y, sound()) {
						count++
					}
				}
				if want := slices.Index(all, x); count != want {
					t.Errorf("P2: change %d of one is told by another: %d of 3 are as they were, not %d", i, count, want)
				}
			}
		}
	}
}

// TestCloneGrows: lists of a clone may grow, one behind the other, and none comes to stand in another's place.
func TestCloneGrows(t *testing.T) {
	v := copied(sound())
	was := flat(wide(v))
	c := view.Clone(v)
	want := copied(sound())
	for n := range int64(10) {
		for _, x := range []*api.View{&c, &want} {
			for i := range x.Roots {
				x.Roots[i] = append(x.Roots[i], num(n+int64(i)*100))
			}
			for i := range x.Nodes {
				x.Nodes[i].Fields = append(x.Nodes[i].Fields, ref(n-int64(i)*100))
			}
			x.Roots = append(x.Roots, list(num(n)))
			x.Nodes = append(x.Nodes, node(n+30, num(-n)))
		}
		if !slices.Equal(flat(c), flat(want)) {
			t.Fatalf("P2: a clone's lists share something: %v; want %v", c, want)
		}
	}
	if !slices.Equal(flat(wide(v)), was) {
		t.Error("P2: what grows in a clone is told by what was cloned")
	}
}

// TestCloneShared: a view whose lists are one: the clone's are not.
func TestCloneShared(t *testing.T) {
	one := list(num(1), num(2), ref(0))
	v := api.View{Roots: [][]api.Value{one, one, one[:2], one[1:]}, Nodes: []api.Node{node(0, one...), {Serial: 1, Fields: one}, {Serial: 2, Fields: one[:1]}}}
	v.Nodes[0].Fields = one
	c := view.Clone(v)
	c.Roots[0][1] = num(50)
	c.Roots[1][0] = num(51)
	c.Nodes[0].Fields[2] = num(52)
	c.Nodes[1].Fields[1] = num(53)
	c.Nodes[2].Fields = append(c.Nodes[2].Fields, num(54))
	want := api.View{
		Roots: [][]api.Value{list(num(1), num(50), ref(0)), list(num(51), num(2), ref(0)), list(num(1), num(2)), list(num(2), ref(0))},
		Nodes: []api.Node{node(0, num(1), num(2), num(52)), node(1, num(1), num(53), ref(0)), node(2, num(1), num(54))},
	}
	if !slices.Equal(flat(c), flat(want)) || !slices.Equal(one, list(num(1), num(2), ref(0))) {
		t.Errorf("P2: a clone's lists share something: %v; want %v", c, want)
	}
}
