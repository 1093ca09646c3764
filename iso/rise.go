package iso

import (
	"cmp"
	"slices"
	"strings"

	"grommet/api"
)

// entry is the places of a Map's key and of its value.
type entry struct {
	key, value int
}

// entriesOf are a Map's entries, as they stand.
func entriesOf(n api.Node) []entry {
	entries := make([]entry, len(n.Kids)/2)
	for i := range entries {
		entries[i] = entry{n.Kids[2*i], n.Kids[2*i+1]}
	}
	return entries
}

// rising is a graph that may be with the entries of all Maps in the order in which their keys rise, at the same places.
func rising(g api.Graph) api.Graph {
	nodes := slices.Clone(g.Nodes)
	for i, n := range nodes {
		if n.Kind == api.Map {
			nodes[i].Kids = risingKids(g.Nodes, n)
		}
	}
	return api.Graph{Nodes: nodes, Root: g.Root}
}

// risingKids are a Map's Kids, entry by entry as their keys rise.
func risingKids(nodes []api.Node, n api.Node) []int {
	entries := entriesOf(n)
	slices.SortFunc(entries, func(x, y entry) int {
		return compareKeys(nodes[x.key], nodes[y.key])
	})
	kids := make([]int, 0, len(n.Kids))
	for _, e := range entries {
		kids = append(kids, e.key, e.value)
	}
	return kids
}

func compareKeys(x, y api.Node) int {
	if x.Kind != y.Kind {
		return cmp.Compare(x.Kind, y.Kind)
	}
	return strings.Compare(x.Text, y.Text)
}
