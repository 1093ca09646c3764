package lay

import "grommet/api"

// descent is how a graph that may be is gone down, in order, to tell how deep its tree is.
type descent struct {
	nodes   []api.Node
	came    []bool // of each place, whether it was gone to
	deepest int
}

// deepest is how many Seqs and Maps would lie within one another in a graph's tree.
func deepest(g api.Graph) int {
	d := &descent{nodes: g.Nodes, came: make([]bool, len(g.Nodes))}
	d.goTo(g.Root, 0)
	return d.deepest
}

// goTo goes to a node that lies within so many Seqs and Maps.
func (d *descent) goTo(at, deep int) {
	if d.came[at] {
		// The tree has an Alias here, within which nothing lies.
		return
	}
	d.came[at] = true
	n := d.nodes[at]
	if isList(n) {
		deep++
	}
	d.deepest = max(d.deepest, deep)
	for _, kid := range n.Kids {
		d.goTo(kid, deep)
	}
}

func isList(n api.Node) bool {
	return n.Kind == api.Seq || n.Kind == api.Map
}
