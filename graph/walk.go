package graph

import "grommet/api"

// walk is how a graph that may be is gone over, in order.
type walk struct {
	nodes   []api.Node
	order   []int // the places, as they come
	came    []int // of each place, at which one of these it came, or never
	deepest int
}

// never is of a place that was not gone to.
const never = -1

// walked is all of a graph that may be, gone over from its Root on.
func walked(g api.Graph) *walk {
	w := &walk{nodes: g.Nodes, came: make([]int, len(g.Nodes))}
	for at := range w.came {
		w.came[at] = never
	}
	w.goTo(g.Root, 1)
	return w
}

func (w *walk) goTo(at, deep int) {
	if w.came[at] != never {
		return
	}
	w.came[at] = len(w.order)
	w.order = append(w.order, at)
	w.deepest = max(w.deepest, deep)
	for _, kid := range w.nodes[at].Kids {
		w.goTo(kid, deep+1)
	}
}

// graph is just what was gone to, at the places at which it came.
func (w *walk) graph() api.Graph {
	nodes := make([]api.Node, len(w.order))
	for i, at := range w.order {
		n := w.nodes[at]
		nodes[i] = api.Node{Kind: n.Kind, Text: n.Text}
		for _, kid := range n.Kids {
			nodes[i].Kids = append(nodes[i].Kids, w.came[kid])
		}
	}
	return api.Graph{Nodes: nodes}
}
