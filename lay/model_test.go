package lay_test

import (
	"math/rand"
	"slices"
	"strconv"

	"grommet/api"
	"grommet/flow"
	"grommet/graph"
)

// The chapter's words, written a second time: the order by a stack, what is shared by counting, and a node's tree where the last node ahead of it has it; a tree that is trimmed by going over its values, with no graph. The numbers are the document's.

// wantOrder are the places of a graph that may be, in order.
func wantOrder(g api.Graph) []int {
	var order []int
	isDone := make([]bool, len(g.Nodes))
	for left := []int{g.Root}; len(left) > 0; {
		next := left[len(left)-1]
		left = left[:len(left)-1]
		if isDone[next] {
			continue
		}
		isDone[next] = true
		order = append(order, next)
		for _, kid := range slices.Backward(g.Nodes[next].Kids) {
			left = append(left, kid)
		}
	}
	return order
}

// wantAnchors are those of all that is shared, by their places.
func wantAnchors(g api.Graph, order []int) map[int]string {
	times := map[int]int{g.Root: 1}
	for _, at := range order {
		for _, kid := range g.Nodes[at].Kids {
			times[kid]++
		}
	}
	anchors := map[int]string{}
	for _, at := range order {
		if times[at] >= 2 {
			anchors[at] = "a" + strconv.Itoa(len(anchors)+1)
		}
	}
	return anchors
}

// kidOf is a Kid: whose, and which one of its Kids.
type kidOf struct {
	node, which int
}

// wantPlaces tells of each place but the Root as which Kid it stands in the tree; as all others there are Aliases.
func wantPlaces(g api.Graph, order []int) map[int]kidOf {
	came := map[int]int{}
	for i, at := range order {
		came[at] = i
	}
	places := map[int]kidOf{}
	for i, at := range order {
		for k, kid := range slices.Backward(g.Nodes[at].Kids) {
			if came[kid] > i {
				places[kid] = kidOf{at, k}
			}
		}
	}
	return places
}

// want is what is asked of a graph.
type want struct {
	tree   api.Tree
	why    api.Errno
	size   int
	sizeOf api.Errno
}

// wantOf is all of a graph.
func wantOf(g api.Graph) want {
	if !graph.Right(g) {
		return want{why: 1, sizeOf: 1}
	}
	order := wantOrder(g)
	anchors, places := wantAnchors(g, order), wantPlaces(g, order)
	w := want{size: len(order)}
	trees := map[int]api.Tree{}
	for _, at := range slices.Backward(order) {
		n := g.Nodes[at]
		t := api.Tree{Kind: n.Kind, Text: n.Text, Anchor: anchors[at]}
		for k, kid := range n.Kids {
			if kid != g.Root && places[kid] == (kidOf{at, k}) {
				t.Kids = append(t.Kids, trees[kid])
			} else {
				w.size++
				t.Kids = append(t.Kids, api.Tree{Kind: 7, Anchor: anchors[kid]})
			}
		}
		trees[at] = t
	}
	w.tree = trees[g.Root]
	if w.why = wantLimits(g, order, places, w.size); w.why != 0 {
		w.tree = api.Tree{}
	}
	return w
}

// wantLimits is the error of a tree of so many trees.
func wantLimits(g api.Graph, order []int, places map[int]kidOf, size int) api.Errno {
	deep := map[int]int{}
	for _, at := range order {
		if at != g.Root {
			deep[at] = deep[places[at].node]
		}
		if g.Nodes[at].Kind >= 5 {
			deep[at]++
		}
		if deep[at] > 64 {
			return 10
		}
	}
	if size > 4096 {
		return 5
	}
	return 0
}

// values are a tree's, in the order of the text.
func values(t *api.Tree) []*api.Tree {
	list := []*api.Tree{t}
	for i := range t.Kids {
		list = append(list, values(&t.Kids[i])...)
	}
	return list
}

// wantTrim tells of a tree; just whether it is refused is asked of layer 12.
func wantTrim(t api.Tree) (api.Tree, api.Errno) {
	if _, e := graph.Compose(t); e != 0 {
		return api.Tree{}, e
	}
	t = copiedTree(t)
	list := values(&t)
	meant := make([]int, len(list))
	for i, v := range list {
		meant[i] = -1
		for k, ahead := range list[:i] {
			if v.Kind == 7 && ahead.Kind != 7 && ahead.Anchor == v.Anchor {
				meant[i] = k
			}
		}
	}
	count := 0
	for i, v := range list {
		switch {
		case slices.Contains(meant, i):
			count++
			v.Anchor = "a" + strconv.Itoa(count)
		case v.Kind == 7:
			v.Anchor = list[meant[i]].Anchor
		default:
			v.Anchor = ""
		}
	}
	return t, 0
}

// copiedTree is a tree that shares nothing with another one.
func copiedTree(t api.Tree) api.Tree {
	t.Kids = slices.Clone(t.Kids)
	for i := range t.Kids {
		t.Kids[i] = copiedTree(t.Kids[i])
	}
	return t
}

// copied is a graph that shares nothing with another one.
func copied(g api.Graph) api.Graph {
	g.Nodes = slices.Clone(g.Nodes)
	for i := range g.Nodes {
		g.Nodes[i].Kids = slices.Clone(g.Nodes[i].Kids)
	}
	return g
}

func one[T any](draw *rand.Rand, list ...T) T {
	return list[draw.Intn(len(list))]
}

// drawnScalar is one of few, so that several are drawn often.
func drawnScalar(draw *rand.Rand) api.Node {
	switch draw.Intn(4) {
	case 0:
		return null
	case 1:
		return boolean(one(draw, "true", "false"))
	case 2:
		return number(one(draw, "0", "5", "-5", "12"))
	}
	return str(one(draw, "", "a", "b", "a1", "5", "null", "*a1", "&a1 a", "a: b\n", "[", "\u20ac"))
}

// hasKey tells whether a key is there among the Kids of a Map.
func hasKey(nodes []api.Node, kids []int, key api.Node) bool {
	for k := 0; k < len(kids); k += 2 {
		if nodes[kids[k]].Kind == key.Kind && nodes[kids[k]].Text == key.Text {
			return true
		}
	}
	return false
}

// drawnGraph is one that may be, with places in any order, some of which may not be reached.
func drawnGraph(draw *rand.Rand, most int) api.Graph {
	count := 1 + draw.Intn(most)
	nodes := make([]api.Node, count)
	kinds := one(draw, []int{api.Seq, api.Map, api.Str}, []int{api.Seq, api.Seq, api.Str}, []int{api.Map})
	for i := range count {
		kind := one(draw, kinds...)
		if kind == api.Str {
			nodes[i] = drawnScalar(draw)
			continue
		}
		var kids []int
		for range draw.Intn(5) {
			if kind == api.Map {
				key := drawnScalar(draw)
				if hasKey(nodes, kids, key) {
					continue
				}
				kids = append(kids, len(nodes))
				nodes = append(nodes, key)
			}
			kids = append(kids, draw.Intn(count))
		}
		nodes[i] = api.Node{Kind: kind, Kids: kids}
	}
	return moved(draw, api.Graph{Nodes: nodes, Root: draw.Intn(count)})
}

// drawnRow are so many Seqs and Maps, each with the next one in it, and with others ahead of that or behind it, that may be of the row, too.
func drawnRow(draw *rand.Rand, count int) api.Graph {
	g := api.Graph{Nodes: make([]api.Node, count)}
	for i := range count {
		kids := []int{}
		if i+1 < count {
			kids = append(kids, i+1)
		}
		for range max(0, draw.Intn(8)-5) {
			kids = slices.Insert(kids, draw.Intn(len(kids)+1), one(draw, i, draw.Intn(i+1), draw.Intn(i+1), draw.Intn(i+1), min(i+1+draw.Intn(4), count-1)))
		}
		g.Nodes[i] = seq(kids...)
		if draw.Intn(2) == 0 {
			g.Nodes[i] = dict()
			for _, kid := range kids {
				g.Nodes[i].Kids = append(g.Nodes[i].Kids, len(g.Nodes), kid)
				g.Nodes = append(g.Nodes, number(strconv.Itoa(len(g.Nodes))))
			}
		}
	}
	return moved(draw, g)
}

// drawnCrowd is a graph whose tree has so many trees.
func drawnCrowd(draw *rand.Rand, size int) api.Graph {
	g := of(seq())
	lists := []int{0}
	for range size - 1 {
		at, around := len(g.Nodes), one(draw, lists...)
		switch draw.Intn(8) {
		case 0:
			// It is there already, and so another tree is an Alias.
			at = draw.Intn(at)
		case 1:
			g.Nodes = append(g.Nodes, seq())
			if len(lists) < 40 {
				lists = append(lists, at)
			}
		default:
			g.Nodes = append(g.Nodes, drawnScalar(draw))
		}
		g.Nodes[around].Kids = append(g.Nodes[around].Kids, at)
	}
	return moved(draw, g)
}

// moved is a graph whose nodes lie at other places.
func moved(draw *rand.Rand, g api.Graph) api.Graph {
	to := draw.Perm(len(g.Nodes))
	m := api.Graph{Nodes: make([]api.Node, len(g.Nodes)), Root: to[g.Root]}
	for i, n := range g.Nodes {
		kids := make([]int, len(n.Kids))
		for k, kid := range n.Kids {
			kids[k] = to[kid]
		}
		m.Nodes[to[i]] = api.Node{Kind: n.Kind, Text: n.Text, Kids: kids}
	}
	return m
}

// surrounded is a graph with more nodes, none of which is reached, though they reach it.
func surrounded(draw *rand.Rand, g api.Graph) api.Graph {
	g = copied(g)
	var free []int
	isKey := map[int]bool{}
	for _, n := range g.Nodes {
		for k := 0; n.Kind == api.Map && k < len(n.Kids); k += 2 {
			isKey[n.Kids[k]] = true
		}
	}
	for at := range g.Nodes {
		if !isKey[at] {
			free = append(free, at)
		}
	}
	for range 1 + draw.Intn(3) {
		here := len(g.Nodes)
		g.Nodes = append(g.Nodes, one(draw, null, seq(one(draw, free...), one(draw, free...)), seq(here, here), dict(here+1, one(draw, free...))))
		if g.Nodes[here].Kind == api.Map {
			g.Nodes = append(g.Nodes, drawnScalar(draw))
		}
	}
	return moved(draw, g)
}

// turned is a graph in which one thing is another one, so that it may be no longer.
func turned(draw *rand.Rand, g api.Graph) api.Graph {
	g = copied(g)
	n := &g.Nodes[draw.Intn(len(g.Nodes))]
	place := draw.Intn(len(g.Nodes)+2) - 1
	switch draw.Intn(7) {
	case 0:
		g.Root = place
	case 1:
		n.Kind = draw.Intn(9)
	case 2:
		n.Text = one(draw, "", "a", "true", "5", "05", "\xff")
	case 3:
		n.Kids = append(n.Kids, place)
	case 4:
		n.Kids = n.Kids[:max(0, len(n.Kids)-1)]
	case 5:
		if len(n.Kids) == 0 {
			*n = drawnScalar(draw)
		}
	default:
		if len(n.Kids) > 0 {
			n.Kids[draw.Intn(len(n.Kids))] = place
		}
	}
	return g
}

// smallGraphs are all graphs of so many of these nodes, whether they may be or not, with these many places as their Root.
func smallGraphs(count, roots int, kinds []api.Node) []api.Graph {
	total := 1
	for range count {
		total *= len(kinds)
	}
	var all []api.Graph
	for which := range total {
		var nodes []api.Node
		for range count {
			nodes = append(nodes, kinds[which%len(kinds)])
			which /= len(kinds)
		}
		for root := range roots {
			all = append(all, api.Graph{Nodes: nodes, Root: root})
		}
	}
	return all
}

// drawnTree has at most so many Seqs and Maps within one another; names and keys are few, so that some are there, and some twice.
func drawnTree(draw *rand.Rand, deep int, names ...string) api.Tree {
	if draw.Intn(6) == 0 {
		return alias(one(draw, names...))
	}
	n := drawnScalar(draw)
	t := tree(n.Kind, n.Text)
	if deep > 0 && draw.Intn(4) > 0 {
		t = tree(one(draw, api.Seq, api.Map), "")
		for range draw.Intn(4) {
			if t.Kind == api.Map {
				key := drawnScalar(draw)
				t.Kids = append(t.Kids, tree(key.Kind, key.Text))
			}
			t.Kids = append(t.Kids, drawnTree(draw, deep-1, names...))
		}
	}
	if draw.Intn(2) == 0 {
		t.Anchor = one(draw, names...)
	}
	return t
}

// spoilt is a tree in which one thing is another one, so that it may be no longer.
func spoilt(draw *rand.Rand, t api.Tree) api.Tree {
	if len(t.Kids) > 0 && draw.Intn(4) > 0 {
		t.Kids = slices.Clone(t.Kids)
		which := draw.Intn(len(t.Kids))
		t.Kids[which] = spoilt(draw, t.Kids[which])
		return t
	}
	switch draw.Intn(4) {
	case 0:
		t.Kind = draw.Intn(9)
	case 1:
		t.Text = one(draw, "", "a", "true", "5", "05", "\xff")
	case 2:
		t.Anchor = one(draw, "", "a", "a b", "abcdefghijklmnopqrstuvwxyz0123456")
	default:
		t.Kids = append(slices.Clone(t.Kids), api.Tree{Kind: draw.Intn(9)})
	}
	return t
}

// smallLists are all lists of Kids that have so many trees in all; trees are by how many they have. An entry has a key more.
func smallLists(trees [][]api.Tree, size int, isMap bool) [][]api.Tree {
	if size == 0 {
		return [][]api.Tree{nil}
	}
	var all [][]api.Tree
	for first := 1; first <= size; first++ {
		left, keys := size-first, [][]api.Tree{nil}
		if isMap {
			left, keys = left-1, [][]api.Tree{{tree(api.Str, "5")}, {tree(api.Int, "5")}}
		}
		if left < 0 {
			continue
		}
		for _, behind := range smallLists(trees, left, isMap) {
			for _, kid := range trees[first] {
				for _, key := range keys {
					all = append(all, slices.Concat(key, []api.Tree{kid}, behind))
				}
			}
		}
	}
	return all
}

// smallTrees are all trees of up to so many trees, by how many they have, with these names and two keys.
func smallTrees(most int, names ...string) [][]api.Tree {
	small := []api.Tree{tree(api.Null, "")}
	for _, name := range names {
		small = append(small, alias(name), anchored(name, tree(api.Null, "")))
	}
	trees := [][]api.Tree{nil, small}
	for size := 1; size <= most; size++ {
		if size == len(trees) {
			trees = append(trees, nil)
		}
		for kind := api.Seq; kind <= api.Map; kind++ {
			for _, kids := range smallLists(trees, size-1, kind == api.Map) {
				next := tree(kind, "", kids...)
				trees[size] = append(trees[size], next)
				for _, name := range names {
					trees[size] = append(trees[size], anchored(name, next))
				}
			}
		}
	}
	return trees
}

// sameTree tells whether two trees are the same; lists that are nil and ones that are empty are.
func sameTree(a, b api.Tree) bool {
	if a.Kind != b.Kind || a.Text != b.Text || a.Anchor != b.Anchor || len(a.Kids) != len(b.Kids) {
		return false
	}
	for i := range a.Kids {
		if !sameTree(a.Kids[i], b.Kids[i]) {
			return false
		}
	}
	return true
}

// bare is a tree without its Anchors.
func bare(t api.Tree) api.Tree {
	t.Anchor = ""
	t.Kids = slices.Clone(t.Kids)
	for i := range t.Kids {
		t.Kids[i] = bare(t.Kids[i])
	}
	return t
}

// text is what is written of a tree, or its error.
func text(t api.Tree) string {
	s, e := flow.Write(t)
	if e != api.OK {
		return e.Error()
	}
	return s[:min(len(s), 999)]
}
