package view_test

import (
	"testing"

	"scutage/api"
)

// unlike are views of which no two are the same, though each tells much as another one does.
func unlike() []api.View {
	one := func(roots [][]api.Value, l ...api.Node) api.View { return api.View{Roots: roots, Nodes: l} }
	a, b, c := num(5), ref(3), nothing()
	whole := [][]api.Value{list(a, b), list(c), list(b, b, a)}
	return []api.View{
		{},
		// Threads: how many, and which of them has what.
		one([][]api.Value{nil}), one([][]api.Value{nil, nil}), one([][]api.Value{nil, nil, nil}),
		one([][]api.Value{list(a)}), one([][]api.Value{list(a), nil}), one([][]api.Value{nil, list(a)}),
		one([][]api.Value{list(a, b)}), one([][]api.Value{list(b, a)}), one([][]api.Value{list(a), list(b)}), one([][]api.Value{list(b), list(a)}),
		one([][]api.Value{list(a, b), nil}), one([][]api.Value{nil, list(a, b)}), one([][]api.Value{list(a, a)}), one([][]api.Value{list(a, a, a)}),
		one([][]api.Value{list(a, b, c)}), one([][]api.Value{list(a, c, b)}), one([][]api.Value{list(a, b), list(c)}), one([][]api.Value{list(a), list(b, c)}),
		// Values: by Kind alone, and by N alone.
		one([][]api.Value{list(num(0))}), one([][]api.Value{list(ref(0))}), one([][]api.Value{list(c)}), one([][]api.Value{list(odd(3, 0))}), one([][]api.Value{list(odd(-1, 0))}), one([][]api.Value{list(odd(1<<32, 0))}),
		one([][]api.Value{list(num(-5))}), one([][]api.Value{list(num(6))}), one([][]api.Value{list(num(1<<32 + 5))}), one([][]api.Value{list(ref(5))}), one([][]api.Value{list(odd(0, 5))}), one([][]api.Value{list(odd(257, 5))}),
		one([][]api.Value{list(num(least))}), one([][]api.Value{list(num(greatest))}), one([][]api.Value{list(odd(0, 6))}),
		one([][]api.Value{list(a, b), list(c), list(b, b)}), one(whole), one([][]api.Value{list(a, b), list(a), list(b, b, a)}), one([][]api.Value{list(a, b), list(c), list(b, b, b)}), one([][]api.Value{list(b, b), list(c), list(b, b, a)}),
		// Nodes: serials, fields, their order, and how many there are.
		one(nil, node(0)), one(nil, node(1)), one(nil, node(-1)), one(nil, node(1<<32)), one(nil, node(0), node(0)), one(nil, node(0), node(1)), one(nil, node(1), node(0)),
		one(nil, node(0, c)), one(nil, node(0, c, c)), one(nil, node(0, c, c, c)), one(nil, node(0, num(0))), one(nil, node(0, ref(0))),
		one(nil, node(0, a, b, c)), one(nil, node(0, b, a, c)), one(nil, node(0, a, c, b)), one(nil, node(0, c, b, c)), one(nil, node(0, a, c, c)), one(nil, node(0, a, b, a)), one(nil, node(0, a, b)),
		one(nil, node(1, a, b, c)), one(nil, node(0, a), node(1, b, c)), one(nil, node(0, a, b), node(1, c)), one(nil, node(0, a, b, c), node(1)), one(nil, node(0), node(1, a, b, c)),
		one(nil, node(0, a), node(1, b)), one(nil, node(1, b), node(0, a)), one(nil, node(0, b), node(1, a)), one(nil, node(1, a), node(0, b)),
		one(nil, refers(0, 1), refers(1, 2), refers(2, 0)), one(nil, refers(0, 1), refers(2, 0), refers(1, 2)), one(nil, refers(2, 0), refers(1, 2), refers(0, 1)), one(nil, refers(0, 1), refers(1, 2)), one(nil, refers(1, 2), refers(2, 0)), one(nil, refers(0, 1), refers(2, 0)),
		one(nil, refers(0, 1), refers(1, 2), refers(2, 1)), one(nil, refers(0, 1), refers(1, 1), refers(2, 0)), one(nil, refers(0, 2), refers(1, 2), refers(2, 0)), one(nil, refers(0, 1), refers(1, 2), refers(3, 0)), one(nil, refers(0, 1), refers(5, 2), refers(2, 0)), one(nil, refers(-1, 1), refers(1, 2), refers(2, 0)),
		// Both: what the one has and the other not.
		one([][]api.Value{list(a)}, node(0)), one([][]api.Value{nil}, node(0, a)), one([][]api.Value{nil}, node(0)), one([][]api.Value{list(a)}, node(0, a)), one([][]api.Value{list(a), list(a)}, node(0)),
		one(whole, node(0, a, b), node(3, c)), one(whole, node(0, a, b), node(3, a)), one(whole, node(0, a, b), node(4, c)), one(whole[:2], node(0, a, b), node(3, c)), one(whole, node(0, a, b)), one(whole, node(0, a, b), node(3, c), node(4)),
	}
}

// TestSame: each view is itself, a copy of it, and none of the others.
func TestSame(t *testing.T) {
	l := unlike()
	for i, a := range l {
		for j, b := range l {
			same(t, a, b, i == j)
			same(t, a, copied(b), i == j)
		}
		same(t, copied(a), copied(a), true)
	}
}

// TestSameShared: views that share their lists are the same only where these have as many elements.
func TestSameShared(t *testing.T) {
	values := list(num(1), ref(0), nothing())
	roots := [][]api.Value{values, values[:2], values[1:]}
	l := []api.Node{node(0, values...), {Serial: 1, Fields: values[:2]}, {Serial: 2, Fields: values[1:]}}
	v := api.View{Roots: roots, Nodes: l}
	same(t, v, v, true)
	for n := range 3 {
		same(t, v, api.View{Roots: roots[:n], Nodes: l}, false)
		same(t, v, api.View{Roots: roots, Nodes: l[:n]}, false)
		same(t, v, api.View{Roots: roots[:n], Nodes: l[:n]}, false)
		same(t, api.View{Roots: roots[:n]}, api.View{Roots: roots[:n]}, true)
	}
	shorter := copied(v)
	shorter.Roots[0] = values[:2]
	same(t, v, shorter, false)
	shorter = copied(v)
	shorter.Nodes[2].Fields = nil
	same(t, v, shorter, false)
}

// TestSameEmpty: an empty list is none, wherever it stands.
func TestSameEmpty(t *testing.T) {
	room := make([]api.Value, 4)
	for _, none := range [][]api.Value{nil, {}, room[:0], room[4:], room[2:2:2]} {
		for _, other := range [][]api.Value{nil, {}, room[:0]} {
			same(t, api.View{Roots: [][]api.Value{none}}, api.View{Roots: [][]api.Value{other}}, true)
			same(t, nodes(api.Node{Fields: none}), nodes(api.Node{Fields: other}), true)
			same(t, nodes(api.Node{Fields: none}), nodes(node(0, nothing())), false)
			same(t, api.View{Roots: [][]api.Value{none, list(num(1))}}, api.View{Roots: [][]api.Value{other, list(num(1))}}, true)
		}
		v := api.View{Roots: [][]api.Value{none}, Nodes: []api.Node{{Fields: none}}}
		look(t, v)
	}
	for _, a := range [][][]api.Value{nil, {}, make([][]api.Value, 2)[:0]} {
		for _, b := range [][]api.Node{nil, {}, make([]api.Node, 2)[:0]} {
			v := api.View{Roots: a, Nodes: b}
			same(t, v, api.View{}, true)
			look(t, v)
		}
	}
}

// TestSameEach: of a view of several threads and nodes, each number changed alone is another view.
func TestSameEach(t *testing.T) {
	v := api.View{Roots: [][]api.Value{list(num(3), ref(4), nothing()), nil, list(ref(0))}, Nodes: []api.Node{refers(0, 4, 0, 9), node(4, num(7), nothing(), ref(4)), node(9), node(12, num(-1))}}
	deltas := []int64{1, -1, 256, 1 << 32, least}
	for i, l := range lists(v) {
		for j := range l {
			for _, d := range deltas {
				c := copied(v)
				x := &lists(c)[i][j]
				x.N += d
				same(t, v, c, false)
				x.N -= d
				same(t, v, c, true)
				x.Kind += int(d)
				same(t, v, c, false)
			}
		}
	}
	for i := range v.Nodes {
		for _, d := range deltas {
			c := copied(v)
			c.Nodes[i].Serial += d
			same(t, v, c, false)
			c.Nodes[i].Serial -= d
			same(t, v, c, true)
		}
	}
}
