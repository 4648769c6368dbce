package machine

import (
	"cmp"
	"slices"

	"scutage/api"
	"scutage/word"
)

// View is what each thread holds, and the objects that can be reached, rising by serial.
func (m *Machine) View() api.View {
	if !m.made() {
		return api.View{}
	}
	return api.View{Roots: m.roots(), Nodes: m.nodes()}
}

// roots is what each thread holds, from the bottom on.
func (m *Machine) roots() [][]api.Value {
	var roots [][]api.Value
	for t := range m.threads {
		roots = append(roots, m.all(m.heap.Roots(t)))
	}
	return roots
}

// all is these values as all outside know them.
func (m *Machine) all(values []api.Value) []api.Value {
	var all []api.Value
	for _, v := range values {
		all = append(all, m.named(v))
	}
	return all
}

// nodes is the objects that can be reached, rising by serial.
func (m *Machine) nodes() []api.Node {
	var nodes []api.Node
	for _, at := range m.reached() {
		nodes = append(nodes, api.Node{Serial: m.heap.Serial(at), Fields: m.all(m.fields(at))})
	}
	// Where objects stand tells nothing of which was made first.
	slices.SortFunc(nodes, func(a api.Node, b api.Node) int { return cmp.Compare(a.Serial, b.Serial) })
	return nodes
}

// fields is what stands in the fields of the object at that address.
func (m *Machine) fields(at int) []api.Value {
	var fields []api.Value
	for i := range m.heap.Fields(at) {
		v, _ := m.heap.Read(at, i)
		fields = append(fields, v)
	}
	return fields
}

// reached is where the objects begin that can be reached from the global one, or from what a thread holds.
func (m *Machine) reached() []int {
	var met [api.MaxWords]bool
	var found []int
	meet := func(values []api.Value) {
		for _, v := range values {
			if v.Kind == api.Reference && !met[v.N] {
				met[v.N] = true
				found = append(found, int(v.N))
			}
		}
	}
	meet([]api.Value{word.Reference(m.heap.Global())})
	for t := range m.threads {
		meet(m.heap.Roots(t))
	}
	// What is found grows while it is gone through.
	for i := 0; i < len(found); i++ {
		meet(m.fields(found[i]))
	}
	return found
}
