package view_test

import (
	"slices"
	"testing"

	"scutage/api"
	"scutage/view"
)

// TestReach: from roots, and from node 0, by references alone.
func TestReach(t *testing.T) {
	chain := []api.Node{refers(0, 2), refers(1, 3), refers(2, 4), refers(3, 5), refers(4), refers(5)}
	reaches(t, nodes(chain...), 0, 2, 4)
	reaches(t, rooted([]int64{3}, chain...), 0, 2, 3, 4, 5)
	reaches(t, rooted([]int64{1}, chain...), 0, 1, 2, 3, 4, 5)
	reaches(t, rooted([]int64{5, 5, 4}, chain...), 0, 2, 4, 5)
	// Without node 0, roots alone lead on.
	reaches(t, nodes(chain[1:]...))
	reaches(t, rooted([]int64{3}, chain[1:]...), 3, 5)
	reaches(t, rooted([]int64{0}, chain[1:]...))
	reaches(t, rooted([]int64{2, 1}, chain[1:]...), 1, 2, 3, 4, 5)
	// Each thread's roots, wherever they stand among others.
	v := api.View{Nodes: chain, Roots: [][]api.Value{nil, list(num(3), nothing(), ref(5)), nil, list(odd(3, 1), ref(9), num(1)), list(ref(3))}}
	reaches(t, v, 0, 2, 3, 4, 5)
	reaches(t, api.View{Nodes: chain, Roots: v.Roots[:3]}, 0, 2, 4, 5)
	reaches(t, api.View{Nodes: chain, Roots: v.Roots[:1]}, 0, 2, 4)
	// References behind others of the same node.
	reaches(t, nodes(node(0, num(1), nothing(), ref(1), num(2), ref(3)), node(1, nothing(), ref(0), ref(2)), node(2, num(3)), node(3), node(4)), 0, 1, 2, 3)
}

// TestReachNode0: it is the node of serial 0, wherever it stands, not the one that stands first; it needs no root.
func TestReachNode0(t *testing.T) {
	reaches(t, nodes(node(0)), 0)
	reaches(t, nodes(node(1)))
	reaches(t, nodes(refers(-2, 0), refers(-1, -2), refers(0, -1), refers(1, 0)), -2, -1, 0)
	reaches(t, nodes(refers(4, 0), refers(0, 8), refers(8)), 0, 8)
	reaches(t, nodes(refers(4), refers(8)))
	reaches(t, nodes(refers(3), refers(2), refers(0, 2)), 0, 2)
	reaches(t, nodes(refers(1, 2), refers(2, 1)))
}

// TestReachNothing: where nothing can be reached.
func TestReachNothing(t *testing.T) {
	reaches(t, api.View{})
	reaches(t, rooted(nil))
	reaches(t, rooted([]int64{0, 1, -1, least, greatest}))
	reaches(t, rooted([]int64{4}, node(5), node(6)))
	reaches(t, rooted(nil, refers(5, 6), refers(6, 5), refers(7, 7)))
	reaches(t, api.View{Roots: make([][]api.Value, 8), Nodes: []api.Node{node(2)}})
}

// TestReachKinds: a value of another Kind leads nowhere, whatever its N.
func TestReachKinds(t *testing.T) {
	for _, kind := range []int{0, 1, 3, -1, -2, 4, 6, 256 + 2, 1<<32 + 2, -1<<32 + 2, least + 2, least, greatest, greatest - 1} {
		for _, serial := range []int64{3, 0, 7} {
			x := odd(kind, serial)
			reaches(t, api.View{Roots: [][]api.Value{list(x)}, Nodes: []api.Node{refers(3, 7), refers(7)}})
			reaches(t, nodes(node(0, x), refers(3, 7), refers(7)), 0)
			reaches(t, api.View{Roots: [][]api.Value{list(x, ref(7))}, Nodes: []api.Node{refers(3, 7), node(7, x)}}, 7)
		}
	}
}

// TestReachLost: references to no node lead nowhere, and are not told.
func TestReachLost(t *testing.T) {
	reaches(t, rooted([]int64{9, 3, -9, 4}, refers(0, 5, 6, 1), refers(3, 2, 3), refers(6)), 0, 3, 6)
	reaches(t, rooted([]int64{9}, refers(3, 9)))
	reaches(t, rooted([]int64{3}, refers(3, 9, -3, 1<<32+3, 1<<32)), 3)
}

// TestReachRings: nodes that lead back to where one came from, and to themselves.
func TestReachRings(t *testing.T) {
	reaches(t, rooted([]int64{3}, refers(3, 3)), 3)
	reaches(t, rooted([]int64{3}, refers(3, 4), refers(4, 3)), 3, 4)
	reaches(t, rooted([]int64{5}, refers(3, 4, 4), refers(4, 5, 3), refers(5, 3, 5)), 3, 4, 5)
	reaches(t, nodes(refers(0, 0), refers(1, 1)), 0)
	reaches(t, nodes(refers(0, 1), refers(1, 2), refers(2, 0), refers(3, 4), refers(4, 3)), 0, 1, 2)
	// Many lead to one, and one to many.
	reaches(t, rooted([]int64{1, 2, 3, 4}, refers(1, 9), refers(2, 9), refers(3, 9), refers(4, 9), refers(9, 9, 9), refers(10, 9)), 1, 2, 3, 4, 9)
	reaches(t, nodes(refers(0, 5, 4, 3, 2), refers(2), refers(3, 6), refers(4, 6), refers(5), refers(6), refers(7)), 0, 2, 3, 4, 5, 6)
	// Two ways, of which the longer one stands first.
	reaches(t, nodes(refers(0, 1, 4), refers(1, 2), refers(2, 3), refers(3, 4), refers(4, 5), refers(5)), 0, 1, 2, 3, 4, 5)
}

// TestReachOrder: serials rise in the answer, however nodes stand and whatever was met first.
func TestReachOrder(t *testing.T) {
	reaches(t, rooted([]int64{9, 2, 7}, refers(9), refers(7, -3), refers(2, 11), refers(11), refers(-3)), -3, 2, 7, 9, 11)
	reaches(t, rooted([]int64{greatest, least, 0, -1}, node(greatest), node(0), node(least), node(-1), node(1)), least, -1, 0, greatest)
	// By size, not by their octets, nor by how they are written.
	reaches(t, rooted([]int64{100, 20, 3, 1 << 32, 256}, node(100), node(20), node(3), node(1<<32), node(256)), 3, 20, 100, 256, 1<<32)
}

// TestReachTwice: of several nodes of one serial references lead to the first one; each serial is told once.
func TestReachTwice(t *testing.T) {
	reaches(t, rooted([]int64{3}, refers(3, 4), refers(3, 5), refers(4), refers(5)), 3, 4)
	reaches(t, rooted([]int64{3, 3}, refers(4), refers(3, 5), refers(5), refers(3, 4)), 3, 5)
	reaches(t, nodes(refers(0, 2), refers(0, 3), refers(2), refers(2, 3), refers(3)), 0, 2)
	reaches(t, nodes(refers(1), refers(0, 4), refers(4), refers(0, 1), refers(4, 1)), 0, 4)
	reaches(t, nodes(refers(5), refers(5), refers(5)))
	reaches(t, rooted([]int64{5}, refers(5, 5), refers(5, 5), refers(5, 5)), 5)
}

// TestReachApart: what was answered can be written on and may grow; neither the view nor another answer tells it.
func TestReachApart(t *testing.T) {
	v := copied(rooted([]int64{4}, refers(0, 4), refers(4, 6), refers(6)))
	was := flat(wide(v))
	one, other := view.Reach(v), view.Reach(v)
	one = append(one, 70, 71, 72)
	for i := range one {
		one[i] = -1
	}
	if !slices.Equal(other, []int64{0, 4, 6}) || !slices.Equal(flat(wide(v)), was) {
		t.Errorf("P2: what Reach answered is not apart: %v", other)
	}
	v.Nodes[1].Serial = 5
	if !slices.Equal(other, []int64{0, 4, 6}) {
		t.Errorf("P2: what is written on the view is told by what Reach answered")
	}
}

// TestReachLong: chains and rings of very many nodes, forth and back, and a node with very many references.
func TestReachLong(t *testing.T) {
	const n = 60000
	var forth, back, wide api.View
	var all []int64
	hub := api.Node{Serial: 0}
	for i := range int64(n) {
		all = append(all, i)
		forth.Nodes = append(forth.Nodes, refers(i, (i+1)%n))
		back.Nodes = append(back.Nodes, refers(n-1-i, (n-i)%n))
		hub.Fields = append(hub.Fields, ref(n-1-i))
		wide.Nodes = append(wide.Nodes, refers(i, 0, n/2, i))
	}
	wide.Nodes[0] = hub
	for i, v := range []api.View{forth, back, wide} {
		if got := view.Reach(v); !slices.Equal(got, all) {
			t.Errorf("P27.1: of %d nodes in shape %d, %d are reached", n, i, len(got))
		}
		want := api.OK
		if i == 1 {
			want = api.ErrState
		}
		if got := view.Check(v); got != want {
			t.Errorf("P27.1: Check of %d nodes in shape %d = %d; want %d", n, i, got, want)
		}
		if !view.Same(v, view.Clone(v)) {
			t.Errorf("P27.1: a clone of %d nodes in shape %d is another view", n, i)
		}
	}
	// One link less.
	forth.Nodes[n/3].Fields[0] = num(n/3 + 1)
	if got := view.Reach(forth); !slices.Equal(got, all[:n/3+1]) {
		t.Errorf("P27.1: %d nodes are reached where a link is missing behind %d", len(got), n/3)
	}
	if got := view.Check(forth); got != api.ErrFull {
		t.Errorf("P27.1: Check = %d where a link is missing", got)
	}
}
