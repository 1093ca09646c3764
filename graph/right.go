package graph

import (
	"iter"

	"grommet/api"
	"grommet/flow"
)

func isPlace(g api.Graph, at int) bool {
	return at >= 0 && at < len(g.Nodes)
}

func isScalar(n api.Node) bool {
	switch n.Kind {
	case api.Null, api.Bool, api.Int, api.Str:
		return true
	}
	return false
}

// isKeyPlace tells whether a key stands at a place among the Kids of a value of this kind.
func isKeyPlace(kind, place int) bool {
	return kind == api.Map && place%2 == 0
}

// keysOf goes over the places of a node's keys.
func keysOf(n api.Node) iter.Seq[int] {
	return func(yield func(int) bool) {
		for i, kid := range n.Kids {
			if isKeyPlace(n.Kind, i) && !yield(kid) {
				return
			}
		}
	}
}

// isKey tells whether any node has the one at this place as a key.
func isKey(g api.Graph, at int) bool {
	for _, n := range g.Nodes {
		for keyAt := range keysOf(n) {
			if keyAt == at {
				return true
			}
		}
	}
	return false
}

// rightAlone tells whether a node may be, whatever its Kids are.
func rightAlone(n api.Node) bool {
	// An Alias would need an Anchor, and so is refused here, too.
	return flow.Right(api.Tree{Kind: n.Kind, Text: n.Text})
}

// rightKids tells whether a node may have Kids of these places and kinds.
func rightKids(g api.Graph, n api.Node) bool {
	if isScalar(n) && len(n.Kids) > 0 || n.Kind == api.Map && len(n.Kids)%2 != 0 {
		return false
	}
	for i, kid := range n.Kids {
		if !isPlace(g, kid) || isKeyPlace(n.Kind, i) && !isScalar(g.Nodes[kid]) {
			return false
		}
	}
	return true
}

// keysAreNothingElse tells whether no key is another Kid, too, or the Root. All of these must be places.
func keysAreNothingElse(g api.Graph) bool {
	times := make([]int, len(g.Nodes))
	times[g.Root]++
	for _, n := range g.Nodes {
		for _, kid := range n.Kids {
			times[kid]++
		}
	}
	for _, n := range g.Nodes {
		for at := range keysOf(n) {
			if times[at] > 1 {
				return false
			}
		}
	}
	return true
}

// keysDiffer tells whether a node has no two keys of one kind and text. All Kids must be places.
func keysDiffer(g api.Graph, n api.Node) bool {
	keys := set[key]{}
	for at := range keysOf(n) {
		if !keys.add(key{g.Nodes[at].Kind, g.Nodes[at].Text}) {
			return false
		}
	}
	return true
}
