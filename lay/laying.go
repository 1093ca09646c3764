package lay

import (
	"strconv"

	"grommet/api"
	"grommet/iso"
)

// anchorBegin is what stands ahead of an Anchor's number.
const anchorBegin = "a"

// numbering hands out Anchors, none of them twice.
type numbering struct {
	last int
}

func (n *numbering) next() string {
	n.last++
	return anchorBegin + strconv.Itoa(n.last)
}

// anchorsOf are the Anchors of a graph that may be, by their places, in order the next one each. Where nothing is shared there is none.
func anchorsOf(g api.Graph, next func() string) []string {
	anchors := make([]string, len(g.Nodes))
	// A graph that may be is not refused.
	shared, _ := iso.Shared(g)
	for _, at := range shared {
		anchors[at] = next()
	}
	return anchors
}

// laying makes the tree of a graph that may be, in order.
type laying struct {
	nodes   []api.Node
	anchors []string
	came    []bool // of each place, whether it was gone to
}

// laid is the tree of a graph that may be.
func laid(g api.Graph) api.Tree {
	l := &laying{nodes: g.Nodes, anchors: anchorsOf(g, new(numbering).next), came: make([]bool, len(g.Nodes))}
	return l.tree(g.Root)
}

func (l *laying) tree(at int) api.Tree {
	if l.came[at] {
		// What is gone to again is shared, and so has an Anchor.
		return api.Tree{Kind: api.Alias, Anchor: l.anchors[at]}
	}
	l.came[at] = true
	n := l.nodes[at]
	t := api.Tree{Kind: n.Kind, Text: n.Text, Anchor: l.anchors[at]}
	for _, kid := range n.Kids {
		t.Kids = append(t.Kids, l.tree(kid))
	}
	return t
}
