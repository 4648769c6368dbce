package view_test

import (
	"slices"
	"testing"

	"scutage/api"
)

// sound is a view without a fault: two threads of several, and nodes that rise, with all kinds of values.
func sound() api.View {
	return api.View{
		Roots: [][]api.Value{list(ref(3), nothing(), num(8)), nil, list(num(-3), ref(9), ref(3))},
		Nodes: []api.Node{node(0, ref(4), num(5), nothing(), nothing()), node(3, num(9), nothing(), ref(5)), node(4, ref(4), ref(0)), node(5, num(0)), node(9)},
	}
}

// unvalued are values that are none: Kinds that are none, and nothing with an N.
func unvalued() []api.Value {
	var l []api.Value
	for _, kind := range []int{-1, 3, 4, -2, 5, 255, 256, 257, 258, -254, -255, -256, 1 << 16, 1 << 32, 1<<32 + 1, 1<<32 + 2, -1 << 32, least, least + 1, least + 2, greatest, greatest - 1} {
		for _, n := range []int64{0, 1, 3, -1, 77} {
			l = append(l, odd(kind, n))
		}
	}
	for _, n := range []int64{1, -1, 2, 3, 255, 256, 1 << 31, 1 << 32, -1 << 32, 1 << 40, least, greatest} {
		l = append(l, odd(0, n))
	}
	return l
}

// TestCheckSound: views without a fault, among them such as have no nodes, or no threads, or neither.
func TestCheckSound(t *testing.T) {
	checks(t, sound(), api.OK)
	checks(t, api.View{}, api.OK)
	checks(t, api.View{Roots: make([][]api.Value, 3)}, api.OK)
	checks(t, api.View{Roots: [][]api.Value{list(num(4), nothing()), nil, list(num(0))}}, api.OK)
	checks(t, nodes(node(0)), api.OK)
	checks(t, nodes(node(0, ref(0), num(0), nothing())), api.OK)
	checks(t, nodes(refers(0, 1), refers(1, 2), refers(2)), api.OK)
	checks(t, rooted(nil, refers(0, 1), refers(1)), api.OK)
	// Without node 0, if roots lead to all.
	checks(t, rooted([]int64{6}, refers(4, 6), refers(6, 4)), api.OK)
	checks(t, rooted([]int64{6, 4}, refers(4), refers(6)), api.OK)
	// A number may be any, and so may a serial.
	for _, n := range []int64{0, 1, -1, 1<<40 - 1, 1 << 40, -1 << 40, -1<<40 - 1, least, greatest} {
		checks(t, api.View{Roots: [][]api.Value{list(num(n))}}, api.OK)
		checks(t, nodes(node(0, nothing(), num(n))), api.OK)
		checks(t, rooted([]int64{n}, node(n, ref(n), num(n))), api.OK)
	}
	checks(t, rooted([]int64{greatest, -7}, refers(least, least+1), refers(least+1), refers(-7, least), refers(-6), refers(0, -6), refers(greatest-1, 0), refers(greatest, greatest-1)), api.OK)
}

// TestCheckState: serials that fall or stay: at the front, in the middle, at the end, next to each other and apart, whatever else there is.
func TestCheckState(t *testing.T) {
	all := []int64{0, 1, 2, 5, 8}
	for i := range all {
		for j := range i {
			for _, serial := range []int64{all[j], all[j] - 1, -9, least} {
				v := rooted(all)
				for k, s := range all {
					if k == i {
						s = serial
					}
					v.Nodes = append(v.Nodes, node(s))
				}
				checks(t, v, api.ErrState)
			}
		}
	}
	for _, l := range [][]int64{{0, 0}, {1, 0}, {0, -1}, {-1, -2}, {-1, -1}, {greatest, least}, {greatest, greatest}, {least, least}, {greatest, 0}, {1 << 32, 0}, {1 << 32, 1}, {1<<32 + 1, 1}, {0, 2, 1}, {0, 2, 2}, {0, 2, 0}, {1, 0, 2}, {0, 0, 1}, {2, 1, 0}, {0, 1, 2, 3, 3}, {0, 1, 2, 4, 3}} {
		v := rooted(l)
		for _, serial := range l {
			v.Nodes = append(v.Nodes, refers(serial, l...))
		}
		checks(t, v, api.ErrState)
		v.Roots = nil
		checks(t, v, api.ErrState)
	}
	// Far apart, and one more each.
	checks(t, rooted([]int64{least, greatest}, node(least), node(greatest)), api.OK)
	checks(t, rooted([]int64{least, 0, greatest}, node(least), node(0), node(greatest)), api.OK)
	checks(t, rooted([]int64{-1, 1}, node(-1), node(0), node(1)), api.OK)
}

// TestCheckRange: each value that is none, in each root and field of a view that is sound else, also where the node can't be reached.
func TestCheckRange(t *testing.T) {
	for _, x := range unvalued() {
		for i, l := range lists(sound()) {
			for j := range l {
				v := copied(sound())
				lists(v)[i][j] = x
				checks(t, v, api.ErrRange)
			}
		}
		checks(t, api.View{Roots: [][]api.Value{list(x)}}, api.ErrRange)
		checks(t, nodes(node(0, x)), api.ErrRange)
		checks(t, nodes(node(0), node(1, num(1), x)), api.ErrRange)
		checks(t, nodes(node(0, ref(9), num(1)), node(1, x)), api.ErrRange)
		checks(t, api.View{Roots: [][]api.Value{nil, list(ref(5)), list(num(1), x)}}, api.ErrRange)
	}
	// What stands in the room behind is no value.
	v := sound()
	v.Roots[0] = append(list(num(1), ref(3)), unvalued()...)[:2]
	v.Nodes[4].Fields = unvalued()[:0]
	checks(t, v, api.OK)
}

// TestCheckNone: references to no node, in each root and field.
func TestCheckNone(t *testing.T) {
	for _, serial := range []int64{1, 2, 6, 8, 10, -1, -3, -9, 256, 259, 1 << 32, 1<<32 + 3, least, greatest, least + 3} {
		for i, l := range lists(sound()) {
			for j := range l {
				v := copied(sound())
				lists(v)[i][j] = ref(serial)
				checks(t, v, api.ErrNone)
			}
		}
		checks(t, rooted([]int64{serial}), api.ErrNone)
		checks(t, rooted([]int64{0, serial}, node(0)), api.ErrNone)
		checks(t, nodes(refers(0, serial)), api.ErrNone)
		checks(t, nodes(refers(0, 3), node(3, num(serial), ref(serial))), api.ErrNone)
		// From a node that can't be reached.
		checks(t, nodes(node(0), refers(3, serial)), api.ErrNone)
		checks(t, nodes(refers(3, serial)), api.ErrNone)
	}
	checks(t, rooted([]int64{0}), api.ErrNone)
	checks(t, rooted([]int64{0}, node(1)), api.ErrNone)
	checks(t, rooted([]int64{1}, refers(1, 0)), api.ErrNone)
}

// TestCheckFull: nodes that nothing leads to, that lead to each other alone, to themselves alone, or to others that can be reached.
func TestCheckFull(t *testing.T) {
	checks(t, nodes(node(1)), api.ErrFull)
	checks(t, nodes(node(-1)), api.ErrFull)
	checks(t, nodes(node(0), node(1)), api.ErrFull)
	checks(t, nodes(node(-1), node(0)), api.ErrFull)
	checks(t, nodes(node(0, ref(2)), node(1), node(2)), api.ErrFull)
	checks(t, nodes(refers(1, 2), refers(2, 1)), api.ErrFull)
	checks(t, nodes(refers(0, 0), refers(1, 1)), api.ErrFull)
	checks(t, nodes(refers(0, 3), refers(1, 2), refers(2, 1), refers(3)), api.ErrFull)
	checks(t, nodes(refers(0, 1), refers(1), refers(2, 0, 1)), api.ErrFull)
	checks(t, rooted([]int64{2}, refers(1, 2), refers(2)), api.ErrFull)
	checks(t, rooted([]int64{1}, refers(1), refers(2, 1)), api.ErrFull)
	checks(t, rooted(nil, refers(3, 3)), api.ErrFull)
	// A node alone, or two that lead to each other, at each place of a view that is sound else.
	for at := range int64(12) {
		v := sound()
		i := slices.IndexFunc(v.Nodes, func(n api.Node) bool { return n.Serial >= at })
		if i < 0 {
			i = len(v.Nodes)
		}
		if i < len(v.Nodes) && v.Nodes[i].Serial == at {
			continue
		}
		for _, l := range [][]int64{nil, {at}, {0, 3, 4, 5, 9}, {20}} {
			w := copied(v)
			w.Nodes = append(slices.Insert(w.Nodes, i, refers(at, l...)), refers(20, at))
			checks(t, w, api.ErrFull)
			w.Roots[1] = list(num(at), num(20))
			checks(t, w, api.ErrFull)
			w.Roots[1] = list(num(1), ref(20))
			checks(t, w, api.OK)
		}
	}
}

// TestCheckKinds: a number with the N of a serial leads nowhere.
func TestCheckKinds(t *testing.T) {
	checks(t, api.View{Roots: [][]api.Value{list(num(3))}, Nodes: []api.Node{node(3)}}, api.ErrFull)
	checks(t, api.View{Roots: [][]api.Value{list(ref(3))}, Nodes: []api.Node{node(3)}}, api.OK)
	checks(t, nodes(node(0, num(3)), node(3)), api.ErrFull)
	checks(t, nodes(node(0, num(3), ref(3)), node(3)), api.OK)
	checks(t, nodes(node(0, num(7)), node(1)), api.ErrFull)
	checks(t, nodes(node(0, num(7))), api.OK)
}

// TestCheckOrder: of several faults at once the first one in the chapter's order is told, wherever each stands.
func TestCheckOrder(t *testing.T) {
	faults := []api.Errno{api.ErrState, api.ErrRange, api.ErrNone, api.ErrFull}
	type place struct{ list, at int }
	spots := []place{{0, 0}, {0, 1}, {2, 1}, {3, 1}, {4, 2}, {5, 1}, {6, 0}}
	for set := range 1 << len(faults) {
		want := api.OK
		for i := len(faults) - 1; i >= 0; i-- {
			if set>>i&1 == 1 {
				want = faults[i]
			}
		}
		for _, one := range spots {
			for _, other := range spots {
				if one == other {
					continue
				}
				for _, serials := range [][]int64{{9, 8}, {9, 9}, {5, 4}, {3, 0}} {
					v := copied(sound())
					// Roots that lead to all, so that it is not for a fault that something can't be reached.
					v.Roots[1] = refers(0, 3, 4, 5, 9).Fields
					if set&2 != 0 {
						lists(v)[one.list][one.at] = odd(3, 3)
					}
					if set&4 != 0 {
						lists(v)[other.list][other.at] = ref(7)
					}
					if set&8 != 0 {
						v.Nodes = slices.Insert(v.Nodes, 1, refers(2, 2))
					}
					if set&1 != 0 {
						i := slices.IndexFunc(v.Nodes, func(n api.Node) bool { return n.Serial == serials[0] })
						v.Nodes = slices.Insert(v.Nodes, i+1, refers(serials[1]))
					}
					checks(t, v, want)
				}
			}
		}
	}
}
