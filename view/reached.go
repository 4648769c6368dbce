package view

import (
	"scutage/api"
)

// global is the serial of the global object, which can be reached wherever it is a node.
const global = 0

// firsts is where the first node of each serial stands: there references lead.
func firsts(nodes []api.Node) map[int64]int {
	first := map[int64]int{}
	for i, n := range nodes {
		if _, known := first[n.Serial]; !known {
			first[n.Serial] = i
		}
	}
	return first
}

// reached tells of each node whether it can be reached, from the roots or from the global object; first is where each serial leads.
func reached(v api.View, first map[int64]int) []bool {
	met := make([]bool, len(v.Nodes))
	// A list, not calls within calls: chains may be as long as there are nodes.
	var waiting []int
	meet := func(values []api.Value) {
		for _, x := range values {
			if i, found := first[x.N]; x.Kind == api.Reference && found && !met[i] {
				met[i] = true
				waiting = append(waiting, i)
			}
		}
	}
	meet([]api.Value{{Kind: api.Reference, N: global}})
	for _, values := range v.Roots {
		meet(values)
	}
	for len(waiting) > 0 {
		last := len(waiting) - 1
		i := waiting[last]
		waiting = waiting[:last]
		meet(v.Nodes[i].Fields)
	}
	return met
}
