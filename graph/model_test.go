package graph_test

import (
	"math"
	"math/big"
	"math/rand"
	"regexp"
	"slices"
	"strconv"
	"unicode/utf8"

	"grommet/api"
	"grommet/flow"
)

// The chapter's words, written a second time: texts as patterns, keys and names by going over all that is ahead, the order by a stack. The numbers are the document's.

var (
	boolRule = regexp.MustCompile(`\A(true|false)\z`)
	intRule  = regexp.MustCompile(`\A(0|-?[1-9][0-9]*)\z`)
)

// wantText tells whether a text may be that of a kind, which must be one of a graph.
func wantText(kind int, text string) bool {
	switch kind {
	case 1, 5, 6:
		return text == ""
	case 2:
		return boolRule.MatchString(text)
	case 3:
		n, ok := new(big.Int).SetString(text, 10)
		return ok && intRule.MatchString(text) && n.IsInt64()
	case 4:
		return utf8.ValidString(text)
	}
	return false
}

// kidOf is a Kid: whose, and which one of its Kids.
type kidOf struct {
	node, which int
}

func wantRight(g api.Graph) bool {
	inside := func(at int) bool { return 0 <= at && at < len(g.Nodes) }
	if len(g.Nodes) < 1 || len(g.Nodes) > 4096 || !inside(g.Root) {
		return false
	}
	places := map[int][]kidOf{}
	for i, n := range g.Nodes {
		if !wantText(n.Kind, n.Text) || n.Kind < 5 && len(n.Kids) > 0 || n.Kind == 6 && len(n.Kids)%2 == 1 {
			return false
		}
		for k, kid := range n.Kids {
			if !inside(kid) {
				return false
			}
			places[kid] = append(places[kid], kidOf{i, k})
		}
	}
	for _, n := range g.Nodes {
		if n.Kind != 6 {
			continue
		}
		for k := 0; k < len(n.Kids); k += 2 {
			this := g.Nodes[n.Kids[k]]
			if this.Kind > 4 || n.Kids[k] == g.Root || len(places[n.Kids[k]]) != 1 {
				return false
			}
			for ahead := 0; ahead < k; ahead += 2 {
				other := g.Nodes[n.Kids[ahead]]
				if this.Kind == other.Kind && this.Text == other.Text {
					return false
				}
			}
		}
	}
	return true
}

// stop is a place that is to be gone to, and how deep it lies then.
type stop struct {
	at, deep int
}

// wantStops are the places in order.
func wantStops(g api.Graph) []stop {
	var stops []stop
	isDone := make([]bool, len(g.Nodes))
	for left := []stop{{g.Root, 1}}; len(left) > 0; {
		next := left[len(left)-1]
		left = left[:len(left)-1]
		if isDone[next.at] {
			continue
		}
		isDone[next.at] = true
		stops = append(stops, next)
		for _, kid := range slices.Backward(g.Nodes[next.at].Kids) {
			left = append(left, stop{kid, next.deep + 1})
		}
	}
	return stops
}

func wantOrder(g api.Graph) []int {
	var order []int
	for _, next := range wantStops(g) {
		order = append(order, next.at)
	}
	return order
}

func wantDepth(g api.Graph) int {
	deepest := 0
	for _, next := range wantStops(g) {
		deepest = max(deepest, next.deep)
	}
	return deepest
}

func wantCanon(g api.Graph) api.Graph {
	var c api.Graph
	order := wantOrder(g)
	for _, at := range order {
		n := g.Nodes[at]
		n.Kids = slices.Clone(n.Kids)
		for k, kid := range n.Kids {
			n.Kids[k] = slices.Index(order, kid)
		}
		c.Nodes = append(c.Nodes, n)
	}
	return c
}

// wantSub tells of a graph that may be.
func wantSub(g api.Graph, at int) (api.Graph, api.Errno) {
	if at < 0 || at >= len(g.Nodes) {
		return api.Graph{}, 6
	}
	for _, n := range g.Nodes {
		for k, kid := range n.Kids {
			if n.Kind == 6 && k%2 == 0 && kid == at {
				return api.Graph{}, 6
			}
		}
	}
	return wantCanon(api.Graph{Nodes: g.Nodes, Root: at}), 0
}

// value is one of a tree, in the order of the text: which of these is around it, and which one of that one's Kids it is.
type value struct {
	tree api.Tree
	kidOf
}

func wantValues(t api.Tree) []value {
	var list []value
	for left := []value{{t, kidOf{-1, 0}}}; len(left) > 0; {
		next := left[len(left)-1]
		left = left[:len(left)-1]
		for k, kid := range slices.Backward(next.tree.Kids) {
			left = append(left, value{kid, kidOf{len(list), k}})
		}
		list = append(list, next)
	}
	return list
}

func wantCompose(t api.Tree) (api.Graph, api.Errno) {
	if !flow.Right(t) {
		return api.Graph{}, 1
	}
	list := wantValues(t)
	isKey := func(v value) bool { return v.node >= 0 && list[v.node].tree.Kind == 6 && v.which%2 == 0 }
	var g api.Graph
	places := make([]int, len(list))
	for i, v := range list {
		places[i] = -1
		if v.tree.Kind != 7 {
			places[i] = len(g.Nodes)
			g.Nodes = append(g.Nodes, api.Node{Kind: v.tree.Kind, Text: v.tree.Text})
		}
		for k, ahead := range list[:i] {
			if v.tree.Kind == 7 && ahead.tree.Kind != 7 && ahead.tree.Anchor == v.tree.Anchor {
				places[i] = places[k]
			}
			if isKey(v) && isKey(ahead) && ahead.node == v.node && ahead.tree.Kind == v.tree.Kind && ahead.tree.Text == v.tree.Text {
				return api.Graph{}, 7
			}
		}
		if places[i] < 0 {
			return api.Graph{}, 11
		}
		if v.node >= 0 {
			around := &g.Nodes[places[v.node]]
			around.Kids = append(around.Kids, places[i])
		}
	}
	return g, 0
}

func one[T any](draw *rand.Rand, list ...T) T {
	return list[draw.Intn(len(list))]
}

// drawnScalar is one of few, so that several are drawn often.
func drawnScalar(draw *rand.Rand) (int, string) {
	switch draw.Intn(4) {
	case 0:
		return api.Null, ""
	case 1:
		return api.Bool, one(draw, "true", "false")
	case 2:
		return api.Int, one(draw, "0", "5", "-5", "12", strconv.Itoa(math.MinInt), strconv.Itoa(math.MaxInt))
	}
	return api.Str, one(draw, "", "a", "b", "5", "true", "null", "~", "a: b\n", "\x00", "\u20ac", "\U0001f600")
}

// drawnGraph is one that may be, with places in any order, some of which may not be reached.
func drawnGraph(draw *rand.Rand, most int) api.Graph {
	count := 1 + draw.Intn(most)
	nodes := make([]api.Node, count)
	for i := range count {
		kind := one(draw, api.Seq, api.Map, api.Str)
		if kind == api.Str {
			nodes[i].Kind, nodes[i].Text = drawnScalar(draw)
			continue
		}
		var kids []int
		for range draw.Intn(5) {
			if kind == api.Map {
				next := api.Node{}
				next.Kind, next.Text = drawnScalar(draw)
				if slices.ContainsFunc(kids, func(at int) bool { return at >= count && sameNode(nodes[at], next) }) {
					continue
				}
				kids = append(kids, len(nodes))
				nodes = append(nodes, next)
			}
			kids = append(kids, draw.Intn(count))
		}
		nodes[i].Kind, nodes[i].Kids = kind, kids
	}
	return moved(api.Graph{Nodes: nodes, Root: draw.Intn(count)}, draw.Perm(len(nodes)))
}

// moved is a graph whose nodes lie at other places.
func moved(g api.Graph, to []int) api.Graph {
	m := api.Graph{Nodes: make([]api.Node, len(g.Nodes)), Root: to[g.Root]}
	for i, n := range g.Nodes {
		kids := make([]int, len(n.Kids))
		for k, kid := range n.Kids {
			kids[k] = to[kid]
		}
		m.Nodes[to[i]] = api.Node{Kind: n.Kind, Text: n.Text, Kids: kids}
	}
	return m
}

// copied is a graph that shares nothing with another one.
func copied(g api.Graph) api.Graph {
	g.Nodes = slices.Clone(g.Nodes)
	for i := range g.Nodes {
		g.Nodes[i].Kids = slices.Clone(g.Nodes[i].Kids)
	}
	return g
}

// sameNode and sameGraph are written a second time here, since Same is tested, too.
func sameNode(a, b api.Node) bool {
	if a.Kind != b.Kind || a.Text != b.Text || len(a.Kids) != len(b.Kids) {
		return false
	}
	for i := range a.Kids {
		if a.Kids[i] != b.Kids[i] {
			return false
		}
	}
	return true
}

func sameGraph(a, b api.Graph) bool {
	if a.Root != b.Root || len(a.Nodes) != len(b.Nodes) {
		return false
	}
	for i := range a.Nodes {
		if !sameNode(a.Nodes[i], b.Nodes[i]) {
			return false
		}
	}
	return true
}

// turned is a graph in which one thing is another one, so that it may be no longer.
func turned(draw *rand.Rand, g api.Graph) api.Graph {
	g = copied(g)
	n := &g.Nodes[draw.Intn(len(g.Nodes))]
	place := draw.Intn(len(g.Nodes)+2) - 1
	switch draw.Intn(8) {
	case 0:
		g.Root = place
	case 1:
		n.Kind = draw.Intn(9)
	case 2:
		n.Text = one(draw, "", "a", "true", "5", "05", "-0", "9223372036854775808", "\xff", "\xed\xa0\x80")
	case 3:
		n.Kids = append(n.Kids, place)
	case 4:
		n.Kids = n.Kids[:max(0, len(n.Kids)-1)]
	case 5:
		g.Nodes = g.Nodes[:len(g.Nodes)-1]
	case 6:
		n.Kind, n.Text = drawnScalar(draw)
	default:
		if len(n.Kids) > 0 {
			n.Kids[draw.Intn(len(n.Kids))] = place
		}
	}
	return g
}

// drawnTree has at most so many Seqs and Maps within one another; names and keys are few, so that some are there, and some twice.
func drawnTree(draw *rand.Rand, deep int, names ...string) api.Tree {
	if len(names) > 0 && draw.Intn(6) == 0 {
		return api.Tree{Kind: api.Alias, Anchor: one(draw, names...)}
	}
	t := api.Tree{Kind: api.Seq}
	if deep == 0 || draw.Intn(4) == 0 {
		t.Kind, t.Text = drawnScalar(draw)
	} else {
		t.Kind = one(draw, api.Seq, api.Map)
		for range draw.Intn(4) {
			if t.Kind == api.Map {
				kind, text := drawnScalar(draw)
				t.Kids = append(t.Kids, api.Tree{Kind: kind, Text: text})
			}
			t.Kids = append(t.Kids, drawnTree(draw, deep-1, names...))
		}
	}
	if len(names) > 0 && draw.Intn(2) == 0 {
		t.Anchor = one(draw, names...)
	}
	return t
}

// spoilt is a tree in which one thing is another one, so that it may be no longer.
func spoilt(draw *rand.Rand, t api.Tree) api.Tree {
	if len(t.Kids) > 0 && draw.Intn(4) > 0 {
		t.Kids = slices.Clone(t.Kids)
		which := draw.Intn(len(t.Kids))
		t.Kids[which] = spoilt(draw, t.Kids[which])
		return t
	}
	switch draw.Intn(4) {
	case 0:
		t.Kind = draw.Intn(9)
	case 1:
		t.Text = one(draw, "", "a", "true", "5", "05", "\xff")
	case 2:
		t.Anchor = one(draw, "", "a", "a b", "abcdefghijklmnopqrstuvwxyz0123456")
	default:
		t.Kids = append(slices.Clone(t.Kids), api.Tree{Kind: draw.Intn(9)})
	}
	return t
}

// bare is a tree without its Anchors.
func bare(t api.Tree) api.Tree {
	t.Anchor = ""
	t.Kids = slices.Clone(t.Kids)
	for i := range t.Kids {
		t.Kids[i] = bare(t.Kids[i])
	}
	return t
}

// unfolded is the tree of a node of a graph in which nothing has itself within it.
func unfolded(g api.Graph, at int) api.Tree {
	t := api.Tree{Kind: g.Nodes[at].Kind, Text: g.Nodes[at].Text}
	for _, kid := range g.Nodes[at].Kids {
		t.Kids = append(t.Kids, unfolded(g, kid))
	}
	return t
}
