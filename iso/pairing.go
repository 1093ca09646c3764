package iso

import "grommet/api"

// pair is a place of one graph and the place of another one that it is paired with.
type pair struct {
	a, b int
}

// pairing is how the nodes of two graphs that may be are paired, the Kids of all of them in the order in which they stand.
type pairing struct {
	a, b    []api.Node
	isEqual bool
	// pairs are those that were gone to. Others, that follow from these, are passed over: two circles may be paired in as many ways as the product of their lengths.
	pairs map[pair]struct{}
	// classes are nodes that are equal if the pairs are: each tells another one of its class, the last one itself. Those of b stand behind those of a.
	classes []int
}

// paired is all of two graphs that may be, paired from their Roots on.
func paired(a, b api.Graph) *pairing {
	p := &pairing{a: a.Nodes, b: b.Nodes, pairs: map[pair]struct{}{}}
	for at := range len(p.a) + len(p.b) {
		p.classes = append(p.classes, at)
	}
	p.isEqual = p.goTo(pair{a.Root, b.Root})
	return p
}

// goTo tells whether two nodes that are paired, and all that are paired below them, have one Kind and one Text, and as many Kids.
func (p *pairing) goTo(next pair) bool {
	if _, isThere := p.pairs[next]; isThere || !p.join(next) {
		return true
	}
	p.pairs[next] = struct{}{}
	a, b := p.a[next.a], p.b[next.b]
	if a.Kind != b.Kind || a.Text != b.Text || len(a.Kids) != len(b.Kids) {
		return false
	}
	for i := range a.Kids {
		if !p.goTo(pair{a.Kids[i], b.Kids[i]}) {
			return false
		}
	}
	return true
}

// join makes the classes of two nodes one, and tells whether they were two.
func (p *pairing) join(next pair) bool {
	a, b := p.class(next.a), p.class(len(p.a)+next.b)
	p.classes[a] = b
	return a != b
}

// class is the node by which all of a class are known.
func (p *pairing) class(of int) int {
	for p.classes[of] != of {
		// Each look makes the way to it shorter.
		p.classes[of] = p.classes[p.classes[of]]
		of = p.classes[of]
	}
	return of
}

// isLike tells whether all that is paired is equal, and no node is paired with two.
func (p *pairing) isLike() bool {
	if !p.isEqual {
		return false
	}
	ofA, ofB := make([]int, len(p.a)), make([]int, len(p.b))
	// Pairs that were passed over are not asked for: two nodes of one class that are no pair are there by others, one of which is in two pairs.
	for next := range p.pairs {
		ofA[next.a]++
		ofB[next.b]++
		if ofA[next.a] > 1 || ofB[next.b] > 1 {
			return false
		}
	}
	return true
}
