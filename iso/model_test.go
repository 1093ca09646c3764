package iso_test

import (
	"bytes"
	"fmt"
	"math/rand"
	"slices"
	"strconv"

	"grommet/api"
	"grommet/graph"
)

// The chapter's words, written a second time: all pairs one by one, keys by going over a Map's, entries put in one behind the other. The numbers are the document's.

// alike is what two graphs that may be are.
type alike struct {
	equal, like, same bool
}

// keyPlace is at which one of a Map's Kids a key of this kind and text stands, or -1.
func keyPlace(g api.Graph, n api.Node, kind int, text string) int {
	for i := 0; i < len(n.Kids); i += 2 {
		if g.Nodes[n.Kids[i]].Kind == kind && g.Nodes[n.Kids[i]].Text == text {
			return i
		}
	}
	return -1
}

// wantAlike goes to all pairs, each of which is gone to once.
func wantAlike(a, b api.Graph) alike {
	left := [][2]int{{a.Root, b.Root}}
	isMet := map[[2]int]bool{left[0]: true}
	isOneOrder := true
	for ; len(left) > 0; left = left[1:] {
		x, y := a.Nodes[left[0][0]], b.Nodes[left[0][1]]
		if x.Kind != y.Kind || x.Text != y.Text || len(x.Kids) != len(y.Kids) {
			return alike{}
		}
		for i := range x.Kids {
			where := i
			if x.Kind == 6 {
				key := a.Nodes[x.Kids[i-i%2]]
				if where = keyPlace(b, y, key.Kind, key.Text); where < 0 {
					return alike{}
				}
				where += i % 2
			}
			if where != i {
				isOneOrder = false
			}
			if next := [2]int{x.Kids[i], y.Kids[where]}; !isMet[next] {
				isMet[next] = true
				left = append(left, next)
			}
		}
	}
	partners := [2]map[int]int{{}, {}}
	for next := range isMet {
		partners[0][next[0]]++
		partners[1][next[1]]++
	}
	isLike := len(partners[0]) == len(isMet) && len(partners[1]) == len(isMet)
	return alike{true, isLike, isLike && isOneOrder}
}

// wantEqual is told by colours: at first all nodes of one Kind and Text have one; then those part whose Kids' colours differ, till none do.
func wantEqual(a, b api.Graph) bool {
	var colours [2][]int
	for count := 0; ; {
		known := map[string]int{}
		var next [2][]int
		for which, g := range []api.Graph{a, b} {
			for i, n := range g.Nodes {
				told := strconv.Itoa(n.Kind) + strconv.Quote(n.Text)
				var parts []string
				for k, kid := range n.Kids {
					part := ""
					if n.Kind == 6 {
						key := g.Nodes[n.Kids[k-k%2]]
						part = fmt.Sprintf("%d %q %d:", key.Kind, key.Text, k%2)
					}
					if colours[which] != nil {
						part += strconv.Itoa(colours[which][kid])
					}
					parts = append(parts, part)
				}
				if n.Kind == 6 {
					slices.Sort(parts)
				}
				told += fmt.Sprintf("%q", parts)
				if colours[which] != nil {
					told += strconv.Itoa(colours[which][i])
				}
				if _, ok := known[told]; !ok {
					known[told] = len(known)
				}
				next[which] = append(next[which], known[told])
			}
		}
		colours = next
		if len(known) == count {
			return colours[0][a.Root] == colours[1][b.Root]
		}
		count = len(known)
	}
}

// wantSorted puts each entry ahead of the first one whose key is greater.
func wantSorted(g api.Graph) api.Graph {
	g = copied(g)
	for i, n := range g.Nodes {
		if n.Kind != 6 {
			continue
		}
		var kids []int
		for k := 0; k < len(n.Kids); k += 2 {
			key := g.Nodes[n.Kids[k]]
			where := 0
			for where < len(kids) {
				other := g.Nodes[kids[where]]
				if other.Kind > key.Kind || other.Kind == key.Kind && bytes.Compare([]byte(other.Text), []byte(key.Text)) > 0 {
					break
				}
				where += 2
			}
			kids = slices.Insert(kids, where, n.Kids[k], n.Kids[k+1])
		}
		g.Nodes[i].Kids = kids
	}
	canon, _ := graph.Canon(g)
	return canon
}

// wantShared asks of each node in order how often it stands anywhere.
func wantShared(g api.Graph) []int {
	var shared []int
	order, _ := graph.Order(g)
	for _, at := range order {
		count := 0
		if at == g.Root {
			count = 1
		}
		for _, around := range order {
			for _, kid := range g.Nodes[around].Kids {
				if kid == at {
					count++
				}
			}
		}
		if count >= 2 {
			shared = append(shared, at)
		}
	}
	return shared
}

func wantFind(g api.Graph, at, kind int, text string) (int, bool) {
	if !graph.Right(g) || at < 0 || at >= len(g.Nodes) || g.Nodes[at].Kind != 6 {
		return 0, false
	}
	if k := keyPlace(g, g.Nodes[at], kind, text); k >= 0 {
		return g.Nodes[at].Kids[k+1], true
	}
	return 0, false
}

func one[T any](draw *rand.Rand, list ...T) T {
	return list[draw.Intn(len(list))]
}

// drawnScalar is one of few, so that several are drawn often.
func drawnScalar(draw *rand.Rand) api.Node {
	switch draw.Intn(4) {
	case 0:
		return null
	case 1:
		return boolean(one(draw, "true", "false"))
	case 2:
		return number(one(draw, "0", "5", "-5", "10"))
	}
	return str(one(draw, "", "a", "b", "aa", "B", "5", "true", "\u20ac"))
}

// drawnGraph is one that may be, with places in any order, some of which may not be reached.
func drawnGraph(draw *rand.Rand, most int) api.Graph {
	count := 1 + draw.Intn(most)
	nodes := make([]api.Node, count)
	kinds := one(draw, []int{api.Seq, api.Map, api.Str}, []int{api.Seq, api.Seq, api.Map}, []int{api.Map})
	for i := range count {
		kind := one(draw, kinds...)
		if kind == api.Str {
			nodes[i] = drawnScalar(draw)
			continue
		}
		var kids []int
		for range draw.Intn(5) {
			if kind == api.Map {
				key := drawnScalar(draw)
				if keyPlace(api.Graph{Nodes: nodes}, dict(kids...), key.Kind, key.Text) >= 0 {
					continue
				}
				kids = append(kids, len(nodes))
				nodes = append(nodes, key)
			}
			kids = append(kids, draw.Intn(count))
		}
		nodes[i] = api.Node{Kind: kind, Kids: kids}
	}
	return moved(draw, api.Graph{Nodes: nodes, Root: draw.Intn(count)})
}

// copied is a graph that shares nothing with another one.
func copied(g api.Graph) api.Graph {
	g.Nodes = slices.Clone(g.Nodes)
	for i := range g.Nodes {
		g.Nodes[i].Kids = slices.Clone(g.Nodes[i].Kids)
	}
	return g
}

// moved is a graph whose nodes lie at other places.
func moved(draw *rand.Rand, g api.Graph) api.Graph {
	to := draw.Perm(len(g.Nodes))
	m := api.Graph{Nodes: make([]api.Node, len(g.Nodes)), Root: to[g.Root]}
	for i, n := range g.Nodes {
		kids := make([]int, len(n.Kids))
		for k, kid := range n.Kids {
			kids[k] = to[kid]
		}
		m.Nodes[to[i]] = api.Node{Kind: n.Kind, Text: n.Text, Kids: kids}
	}
	return m
}

// surrounded is a graph with more nodes, none of which is reached.
func surrounded(draw *rand.Rand, g api.Graph) api.Graph {
	g = copied(g)
	for range 1 + draw.Intn(3) {
		here := len(g.Nodes)
		g.Nodes = append(g.Nodes, one(draw, null, seq(g.Root), seq(here, here), dict(here+1, g.Root)))
		if g.Nodes[here].Kind == api.Map {
			g.Nodes = append(g.Nodes, drawnScalar(draw))
		}
	}
	return moved(draw, g)
}

// mixed is a graph with the entries of all Maps in any order.
func mixed(draw *rand.Rand, g api.Graph) api.Graph {
	g = copied(g)
	for _, n := range g.Nodes {
		if n.Kind != api.Map {
			continue
		}
		draw.Shuffle(len(n.Kids)/2, func(i, k int) {
			n.Kids[2*i], n.Kids[2*k] = n.Kids[2*k], n.Kids[2*i]
			n.Kids[2*i+1], n.Kids[2*k+1] = n.Kids[2*k+1], n.Kids[2*i+1]
		})
	}
	return g
}

// doubled is a graph in which one node stands twice, with keys of its own, and some of what had the first one has the second one.
func doubled(draw *rand.Rand, g api.Graph) api.Graph {
	g = copied(g)
	isKey := map[int]bool{}
	for _, n := range g.Nodes {
		for k := 0; n.Kind == api.Map && k < len(n.Kids); k += 2 {
			isKey[n.Kids[k]] = true
		}
	}
	at := draw.Intn(len(g.Nodes))
	for isKey[at] {
		at = draw.Intn(len(g.Nodes))
	}
	second := len(g.Nodes)
	n := g.Nodes[at]
	n.Kids = slices.Clone(n.Kids)
	g.Nodes = append(g.Nodes, n)
	for k := 0; n.Kind == api.Map && k < len(n.Kids); k += 2 {
		g.Nodes = append(g.Nodes, g.Nodes[n.Kids[k]])
		n.Kids[k] = len(g.Nodes) - 1
	}
	for _, around := range g.Nodes {
		for k, kid := range around.Kids {
			if kid == at && draw.Intn(2) == 0 {
				around.Kids[k] = second
			}
		}
	}
	if g.Root == at && draw.Intn(2) == 0 {
		g.Root = second
	}
	return g
}

// turned is a graph in which one thing is another one, so that it may be no longer.
func turned(draw *rand.Rand, g api.Graph) api.Graph {
	g = copied(g)
	n := &g.Nodes[draw.Intn(len(g.Nodes))]
	place := draw.Intn(len(g.Nodes)+2) - 1
	switch draw.Intn(7) {
	case 0:
		g.Root = place
	case 1:
		n.Kind = draw.Intn(9)
	case 2:
		n.Text = one(draw, "", "a", "b", "true", "5", "05", "\xff")
	case 3:
		n.Kids = append(n.Kids, place)
	case 4:
		n.Kids = n.Kids[:max(0, len(n.Kids)-1)]
	case 5:
		if len(n.Kids) == 0 {
			*n = drawnScalar(draw)
		}
	default:
		if len(n.Kids) > 0 {
			n.Kids[draw.Intn(len(n.Kids))] = place
		}
	}
	return g
}

// smallGraphs are all graphs of up to so many nodes of few kinds that may be and are their own Canon.
func smallGraphs(most int) []api.Graph {
	var all []api.Graph
	for count := 1; count <= most; count++ {
		kinds := []api.Node{null, number("5"), str("5"), seq(), dict()}
		for first := range count {
			kinds = append(kinds, seq(first))
			for second := range count {
				kinds = append(kinds, seq(first, second), dict(first, second))
			}
		}
		total := 1
		for range count {
			total *= len(kinds)
		}
		for which := range total {
			var g api.Graph
			for range count {
				g.Nodes = append(g.Nodes, kinds[which%len(kinds)])
				which /= len(kinds)
			}
			if canon, e := graph.Canon(g); e == api.OK && graph.Same(canon, g) {
				all = append(all, g)
			}
		}
	}
	return all
}
