package view_test

import (
	"math"
	"slices"

	"scutage/api"
)

const (
	least    = math.MinInt64
	greatest = math.MaxInt64
)

// The values: nothing, a number, a reference; and any of this Kind.
func nothing() api.Value              { return api.Value{} }
func num(n int64) api.Value           { return api.Value{Kind: 1, N: n} }
func ref(n int64) api.Value           { return api.Value{Kind: 2, N: n} }
func odd(kind int, n int64) api.Value { return api.Value{Kind: kind, N: n} }

// list is values, one behind the other.
func list(l ...api.Value) []api.Value { return l }

// node is the node of this serial with these fields.
func node(serial int64, fields ...api.Value) api.Node {
	return api.Node{Serial: serial, Fields: fields}
}

// refers is the node of this serial that has references to these, in this order, and nothing else.
func refers(serial int64, to ...int64) api.Node {
	n := api.Node{Serial: serial}
	for _, x := range to {
		n.Fields = append(n.Fields, ref(x))
	}
	return n
}

// nodes is a view of nodes alone, without a thread.
func nodes(l ...api.Node) api.View { return api.View{Nodes: l} }

// rooted is a view with these nodes and one thread that has references to these serials.
func rooted(roots []int64, l ...api.Node) api.View {
	return api.View{Roots: [][]api.Value{refers(0, roots...).Fields}, Nodes: l}
}

// lists are all lists of values of a view: of its threads, and then of its nodes.
func lists(v api.View) [][]api.Value {
	l := slices.Clone(v.Roots)
	for _, n := range v.Nodes {
		l = append(l, n.Fields)
	}
	return l
}

// flat tells all of a view in numbers: two views are the same, if these are.
func flat(v api.View) []int64 {
	l := []int64{int64(len(v.Roots)), int64(len(v.Nodes))}
	for _, n := range v.Nodes {
		l = append(l, n.Serial)
	}
	for _, values := range lists(v) {
		l = append(l, int64(len(values)))
		for _, x := range values {
			l = append(l, int64(x.Kind), x.N)
		}
	}
	return l
}

// copied is the same view, each of its lists with room behind that has something in it.
func copied(v api.View) api.View {
	var c api.View
	for _, values := range v.Roots {
		c.Roots = append(c.Roots, roomy(values))
	}
	for _, n := range v.Nodes {
		c.Nodes = append(c.Nodes, api.Node{Serial: n.Serial, Fields: roomy(n.Fields)})
	}
	c.Roots = append(c.Roots, list(num(71)), list(num(72)))[:len(c.Roots)]
	c.Nodes = append(c.Nodes, node(73, num(74)), node(75, num(76)))[:len(c.Nodes)]
	return c
}

// roomy is the same values, with room behind.
func roomy(l []api.Value) []api.Value {
	return append(slices.Clone(l), num(77), ref(0), odd(78, 79))[:len(l)]
}

// wide is the same view with all that stands in the room behind its lists, too.
func wide(v api.View) api.View {
	w := api.View{Roots: slices.Clone(v.Roots[:cap(v.Roots)]), Nodes: slices.Clone(v.Nodes[:cap(v.Nodes)])}
	for i, values := range w.Roots {
		w.Roots[i] = values[:cap(values)]
	}
	for i, n := range w.Nodes {
		w.Nodes[i].Fields = n.Fields[:cap(n.Fields)]
	}
	return w
}

// first is where the first node of that serial stands; -1: there is none.
func first(v api.View, serial int64) int {
	return slices.IndexFunc(v.Nodes, func(n api.Node) bool { return n.Serial == serial })
}

// part tells of each node whether it is in the reachable part: it is gone through again and again until no more are found.
func part(v api.View) []bool {
	in := make([]bool, len(v.Nodes))
	for more := true; more; {
		more = false
		from := append(slices.Clone(v.Roots), list(ref(0)))
		for i, n := range v.Nodes {
			if in[i] {
				from = append(from, n.Fields)
			}
		}
		for _, x := range slices.Concat(from...) {
			if i := first(v, x.N); x.Kind == 2 && i >= 0 && !in[i] {
				in[i], more = true, true
			}
		}
	}
	return in
}

// reached is what Reach must answer.
func reached(v api.View) []int64 {
	var l []int64
	for i, in := range part(v) {
		if in {
			l = append(l, v.Nodes[i].Serial)
		}
	}
	slices.Sort(l)
	return slices.Compact(l)
}

// checked is what Check must answer.
func checked(v api.View) api.Errno {
	for j := range v.Nodes {
		for i := range j {
			if v.Nodes[i].Serial >= v.Nodes[j].Serial {
				return api.ErrState
			}
		}
	}
	all := slices.Concat(lists(v)...)
	for _, x := range all {
		if x.Kind != 1 && x.Kind != 2 && x != nothing() {
			return api.ErrRange
		}
	}
	for _, x := range all {
		if x.Kind == 2 && first(v, x.N) < 0 {
			return api.ErrNone
		}
	}
	for _, in := range part(v) {
		if !in {
			return api.ErrFull
		}
	}
	return api.OK
}

// words is what Words must answer.
func words(v api.View) int {
	n := len(v.Nodes)
	for _, l := range lists(nodes(v.Nodes...)) {
		n += len(l)
	}
	return n
}
