package view_test

import (
	"slices"
	"testing"

	"scutage/api"
	"scutage/view"
)

// found wants the node of that serial to have these fields.
func found(t *testing.T, v api.View, serial int64, fields ...api.Value) {
	t.Helper()
	finds(t, v, serial)
	if got, ok := view.Find(v, serial); !ok || got.Serial != serial || !slices.Equal(got.Fields, fields) {
		t.Errorf("P27.1: Find(%v, %d) = %v, %v; want %v", v, serial, got, ok, fields)
	}
}

// missing wants that there is no node of that serial.
func missing(t *testing.T, v api.View, serial int64) {
	t.Helper()
	finds(t, v, serial)
	if got, ok := view.Find(v, serial); ok || got.Serial != 0 || len(got.Fields) != 0 {
		t.Errorf("P27.1: Find(%v, %d) = %v, %v", v, serial, got, ok)
	}
}

// TestFind: serials that are there once, twice, three times, or not at all; in nodes that do not rise.
func TestFind(t *testing.T) {
	v := nodes(node(7, num(1)), node(3, num(2), ref(7)), node(7, num(3)), node(-4), node(0, nothing()), node(3), node(9, num(4)), node(-4, num(5)), node(9, num(6)), node(least, num(8)), node(9), node(greatest, num(9)), node(0))
	found(t, v, 7, num(1))
	found(t, v, 3, num(2), ref(7))
	found(t, v, -4)
	found(t, v, 0, nothing())
	found(t, v, 9, num(4))
	found(t, v, least, num(8))
	found(t, v, greatest, num(9))
	for _, serial := range []int64{1, 2, 4, -1, -3, -5, -7, -9, 8, 10, least + 1, greatest - 1, 1<<32 + 7, 1<<32 + 9, 256 + 7, 13} {
		missing(t, v, serial)
	}
	// That nothing leads there, or that a reference does, is one.
	found(t, nodes(node(5, ref(6))), 5, ref(6))
	missing(t, nodes(node(5, ref(6))), 6)
	missing(t, rooted([]int64{6}, node(5)), 6)
}

// TestFindNone: where there is no node, and where node 0 is missing: what is answered then is not a node 0 that is there.
func TestFindNone(t *testing.T) {
	for _, serial := range []int64{0, 1, -1, least, greatest} {
		missing(t, api.View{}, serial)
		missing(t, rooted([]int64{0, 1}), serial)
	}
	v := nodes(node(1, num(1)), node(2, num(2)))
	missing(t, v, 0)
	found(t, v, 1, num(1))
	found(t, v, 2, num(2))
	found(t, nodes(node(0)), 0)
}

// TestFindApart: the node that was found can be written on, and its fields may grow; the view stays.
func TestFindApart(t *testing.T) {
	v := copied(nodes(node(0, num(1), num(2)), node(4, num(3)), node(5), node(6, num(4))))
	was := flat(wide(v))
	for _, n := range v.Nodes {
		one, _ := view.Find(v, n.Serial)
		other, _ := view.Find(v, n.Serial)
		one.Serial = 77
		one.Fields = append(one.Fields, num(50), num(51), num(52))
		one.Fields[0] = num(60)
		if !slices.Equal(flat(wide(v)), was) || !slices.Equal(flat(nodes(other)), flat(nodes(n))) {
			t.Errorf("P2: what Find(%d) answered is not apart", n.Serial)
		}
	}
	n, _ := view.Find(v, 4)
	v.Nodes[1].Fields[0] = num(9)
	if !slices.Equal(n.Fields, list(num(3))) {
		t.Errorf("P2: what is written on the view is told by what Find answered")
	}
}
