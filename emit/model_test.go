package emit_test

import (
	"math/rand"
	"slices"
	"strconv"
	"strings"

	"grommet/api"
	"grommet/block"
	"grommet/flow"
	"grommet/graph"
	"grommet/lay"
	"grommet/load"
)

// The chapter's words, written a second time: whole texts that are moved by putting a byte ahead of each line, with no rows and no columns; rows are got of the text at last, and their columns with it. The numbers are the document's.

// indent is what the model puts ahead of lines, that no text has there, so that a beginning takes the place of just that.
const indent = "\x00"

// indented is a text whose lines stand two columns deeper; empty ones stand as they are.
func indented(text string) string {
	lines := strings.SplitAfter(text, "\n")
	for i, line := range lines {
		if line != "\n" && line != "" {
			lines[i] = indent + indent + line
		}
	}
	return strings.Join(lines, "")
}

func isLong(t api.Tree) bool {
	_, _, ok := block.Lay(t.Text)
	return t.Kind == 4 && strings.Contains(t.Text, "\n") && ok
}

// wantShort is a short value's text, without its Anchor.
func wantShort(t api.Tree) string {
	return map[int]string{5: "[]", 6: "{}", 7: "*" + t.Anchor}[t.Kind] + flow.Scalar(t, false)
}

// wantList is the text of a Seq or a Map with Kids, without its Anchor.
func wantList(t api.Tree) string {
	var text strings.Builder
	for i, kid := range t.Kids {
		switch {
		case t.Kind == 5:
			text.WriteString(wantBehind("- ", kid))
		case i%2 == 1:
			text.WriteString(wantBehind(flow.Scalar(t.Kids[i-1], false)+": ", kid))
		}
	}
	return text.String()
}

// wantBehind is a value's text behind a beginning.
func wantBehind(begin string, t api.Tree) string {
	anchor := ""
	if t.Anchor != "" && t.Kind != 7 {
		anchor = "&" + t.Anchor + " "
	}
	hasKids := (t.Kind == 5 || t.Kind == 6) && len(t.Kids) > 0
	switch {
	case isLong(t):
		st, lines, _ := block.Lay(t.Text)
		return begin + anchor + block.Mark(st) + "\n" + indented(strings.Join(lines, "\n")+"\n")
	case !hasKids:
		return begin + anchor + wantShort(t) + "\n"
	case begin == "" && anchor == "":
		return wantList(t)
	case begin == "":
		return "&" + t.Anchor + "\n" + wantList(t)
	case begin == "- " && anchor == "":
		return strings.Replace(indented(wantList(t)), indent+indent, begin, 1)
	}
	return strings.TrimSuffix(begin+anchor, " ") + "\n" + indented(wantList(t))
}

// wantRows are those of a text of the model.
func wantRows(text string) []api.Row {
	var l []api.Row
	for i, line := range strings.Split(text, "\n") {
		bare := strings.TrimLeft(line, indent+" ")
		l = append(l, api.Row{Col: len(line) - len(bare), Text: bare, At: i + 1})
	}
	return l[:len(l)-1]
}

// want is what is asked of a tree.
type want struct {
	rows   []api.Row
	rowsOf api.Errno
	text   string
	textOf api.Errno
}

// wantOf is all of a tree.
func wantOf(t api.Tree) want {
	if !flow.Right(t) {
		return want{rowsOf: 1, textOf: 1}
	}
	for _, v := range values(&t) {
		for k := 0; v.Kind == 6 && k < len(v.Kids); k += 2 {
			if len(v.Kids[k].Text) > 256 {
				return want{rowsOf: 5, textOf: 5}
			}
		}
	}
	text := wantBehind("", t)
	w := want{rows: wantRows(text), text: strings.ReplaceAll(text, indent, " ")}
	if len(w.text) > 65536 {
		w.text, w.textOf = "", 5
	}
	return w
}

// wantDump is the text of several documents.
func wantDump(l []api.Tree) (string, api.Errno) {
	var texts []string
	for _, t := range l {
		w := wantOf(t)
		if w.textOf != 0 {
			return "", w.textOf
		}
		texts = append(texts, w.text)
	}
	all := strings.Join(texts, "---\n")
	if len(l) > 64 || len(all) > 65536 {
		return "", 5
	}
	return all, 0
}

// wantGraph is a graph's text.
func wantGraph(g api.Graph) (string, api.Errno) {
	t, e := lay.Tree(g)
	if e != 0 {
		return "", e
	}
	w := wantOf(t)
	return w.text, w.textOf
}

// wantRead is a text's graph.
func wantRead(s string) (api.Graph, api.Fault) {
	l, f := load.Load(s)
	switch {
	case f.Why != 0:
		return api.Graph{}, f
	case len(l) > 1:
		return api.Graph{}, api.Fault{Why: 5}
	case len(l) == 0:
		return api.Graph{Nodes: []api.Node{{Kind: 1}}}, api.Fault{}
	}
	g, e := graph.Compose(l[0])
	return g, api.Fault{Why: e}
}

// values are a tree's, in the order of the text.
func values(t *api.Tree) []*api.Tree {
	list := []*api.Tree{t}
	for i := range t.Kids {
		list = append(list, values(&t.Kids[i])...)
	}
	return list
}

// sameTree tells whether two trees are the same; lists that are nil and ones that are empty are.
func sameTree(a, b api.Tree) bool {
	return a.Kind == b.Kind && a.Text == b.Text && a.Anchor == b.Anchor && slices.EqualFunc(a.Kids, b.Kids, sameTree)
}

// copiedTree is a tree that shares nothing with another one.
func copiedTree(t api.Tree) api.Tree {
	t.Kids = slices.Clone(t.Kids)
	for i := range t.Kids {
		t.Kids[i] = copiedTree(t.Kids[i])
	}
	return t
}

// copied is a graph that shares nothing with another one.
func copied(g api.Graph) api.Graph {
	g.Nodes = slices.Clone(g.Nodes)
	for i := range g.Nodes {
		g.Nodes[i].Kids = slices.Clone(g.Nodes[i].Kids)
	}
	return g
}

func one[T any](draw *rand.Rand, list ...T) T {
	return list[draw.Intn(len(list))]
}

// drawnLines are a text of several lines, which layer 8 lays or refuses.
func drawnLines(draw *rand.Rand) string {
	var text strings.Builder
	for range 1 + draw.Intn(5) {
		text.WriteString(one(draw, "", "", "a", "b c", " a", "   b", "# a", "- a", "a: b", "---", "|", "&a1", "[", "\u20ac", "a\tb", "\u0085", "a\t"))
		if draw.Intn(12) == 0 {
			text.WriteString(one(draw, " ", "\r", "\x00", "\ufeff"))
		}
		text.WriteString("\n")
	}
	return strings.TrimSuffix(text.String(), one(draw, "", "\n"))
}

// drawnText is one that may stand as it is, or needs quotes, or many lines.
func drawnText(draw *rand.Rand) string {
	switch draw.Intn(4) {
	case 0:
		return drawnLines(draw)
	case 1:
		return one(draw, "", "a", "b", "a1", "a b", "a:b", "a#b", "-a", "--- a", "5a", "\u20ac", "~a")
	}
	return one(draw, "5", "-5", "null", "~", "true", "*a1", "&a1 a", "a: b", "a:", "a #b", "#a", "- a", "-", "---", "|", ">-", "|+", "!!str a", "[", "[]", "{}", "'a'", `"a"`, "a, b", " a", "a ", "\x00", "\t", "a\tb", "? a", "%a")
}

// drawnScalar is one of any kind.
func drawnScalar(draw *rand.Rand) api.Node {
	switch draw.Intn(6) {
	case 0:
		return null
	case 1:
		return boolean(one(draw, "true", "false"))
	case 2:
		return number(one(draw, "0", "5", "-5", "12"))
	}
	return str(drawnText(draw))
}

// drawnTree has at most so many Seqs and Maps within one another; names and keys are few, so that some are there, and some twice.
func drawnTree(draw *rand.Rand, deep int, names ...string) api.Tree {
	if draw.Intn(6) == 0 {
		return alias(one(draw, names...))
	}
	n := drawnScalar(draw)
	t := tree(n.Kind, n.Text)
	if deep > 0 && draw.Intn(4) > 0 {
		t = tree(one(draw, api.Seq, api.Map), "")
		for range draw.Intn(4) {
			if t.Kind == api.Map {
				key := drawnScalar(draw)
				t.Kids = append(t.Kids, tree(key.Kind, key.Text))
			}
			t.Kids = append(t.Kids, drawnTree(draw, deep-1, names...))
		}
	}
	if draw.Intn(3) == 0 {
		t.Anchor = one(draw, names...)
	}
	return t
}

// spoilt is a tree in which one thing is another one, so that it may be no longer.
func spoilt(draw *rand.Rand, t api.Tree) api.Tree {
	if len(t.Kids) > 0 && draw.Intn(4) > 0 {
		t.Kids = slices.Clone(t.Kids)
		which := draw.Intn(len(t.Kids))
		t.Kids[which] = spoilt(draw, t.Kids[which])
		return t
	}
	switch draw.Intn(5) {
	case 0:
		t.Kind = draw.Intn(9)
	case 1:
		t.Text = one(draw, "", "a", "true", "5", "05", "\xff")
	case 2:
		t.Text = strings.Repeat("a", 256+draw.Intn(2))
	case 3:
		t.Anchor = one(draw, "", "a", "a b", "abcdefghijklmnopqrstuvwxyz0123456")
	default:
		t.Kids = append(slices.Clone(t.Kids), api.Tree{Kind: draw.Intn(9)})
	}
	return t
}

// hasKey tells whether a key is there among the Kids of a Map.
func hasKey(nodes []api.Node, kids []int, key api.Node) bool {
	for k := 0; k < len(kids); k += 2 {
		if nodes[kids[k]].Kind == key.Kind && nodes[kids[k]].Text == key.Text {
			return true
		}
	}
	return false
}

// drawnGraph is one that may be, with places in any order, some of which may not be reached.
func drawnGraph(draw *rand.Rand, most int) api.Graph {
	count := 1 + draw.Intn(most)
	nodes := make([]api.Node, count)
	kinds := one(draw, []int{api.Seq, api.Map, api.Str}, []int{api.Seq, api.Seq, api.Str}, []int{api.Map})
	for i := range count {
		kind := one(draw, kinds...)
		if kind == api.Str {
			nodes[i] = drawnScalar(draw)
			continue
		}
		var kids []int
		for range draw.Intn(5) {
			if kind == api.Map {
				key := drawnScalar(draw)
				if hasKey(nodes, kids, key) {
					continue
				}
				kids = append(kids, len(nodes))
				nodes = append(nodes, key)
			}
			kids = append(kids, draw.Intn(count))
		}
		nodes[i] = api.Node{Kind: kind, Kids: kids}
	}
	return moved(draw, api.Graph{Nodes: nodes, Root: draw.Intn(count)})
}

// moved is a graph whose nodes lie at other places.
func moved(draw *rand.Rand, g api.Graph) api.Graph {
	to := draw.Perm(len(g.Nodes))
	m := api.Graph{Nodes: make([]api.Node, len(g.Nodes)), Root: to[g.Root]}
	for i, n := range g.Nodes {
		kids := make([]int, len(n.Kids))
		for k, kid := range n.Kids {
			kids[k] = to[kid]
		}
		m.Nodes[to[i]] = api.Node{Kind: n.Kind, Text: n.Text, Kids: kids}
	}
	return m
}

// turned is a graph in which one thing is another one, so that it may be no longer.
func turned(draw *rand.Rand, g api.Graph) api.Graph {
	g = copied(g)
	n := &g.Nodes[draw.Intn(len(g.Nodes))]
	place := draw.Intn(len(g.Nodes)+2) - 1
	switch draw.Intn(6) {
	case 0:
		g.Root = place
	case 1:
		n.Kind = draw.Intn(9)
	case 2:
		n.Text = one(draw, "", "a", "true", "5", "05", "\xff", strings.Repeat("a", 257))
	case 3:
		n.Kids = append(n.Kids, place)
	case 4:
		n.Kids = n.Kids[:max(0, len(n.Kids)-1)]
	default:
		if len(n.Kids) > 0 {
			n.Kids[draw.Intn(len(n.Kids))] = place
		}
	}
	return g
}

// smallTrees are all trees of up to so many trees, by how many they have, of these values, and of Seqs and Maps with and without an Anchor.
func smallTrees(most int, small ...api.Tree) [][]api.Tree {
	trees := [][]api.Tree{nil, small}
	for size := 1; size <= most; size++ {
		if size == len(trees) {
			trees = append(trees, nil)
		}
		for kind := api.Seq; kind <= api.Map; kind++ {
			for _, kids := range smallLists(trees, size-1, kind == api.Map) {
				next := tree(kind, "", kids...)
				trees[size] = append(trees[size], next, anchored("x", next))
			}
		}
	}
	return trees
}

// smallLists are all lists of Kids that have so many trees in all; trees are by how many they have. An entry has a key more.
func smallLists(trees [][]api.Tree, size int, isMap bool) [][]api.Tree {
	if size == 0 {
		return [][]api.Tree{nil}
	}
	var all [][]api.Tree
	for first := 1; first <= size; first++ {
		left, key := size-first, []api.Tree(nil)
		if isMap {
			left, key = left-1, []api.Tree{tree(api.Str, "k"+strconv.Itoa(size))}
		}
		if left < 0 {
			continue
		}
		for _, behind := range smallLists(trees, left, isMap) {
			for _, kid := range trees[first] {
				all = append(all, slices.Concat(key, []api.Tree{kid}, behind))
			}
		}
	}
	return all
}

// chains are Seqs and Maps within one another, so many, in all ways: each with or without an Anchor, with others ahead of the next one, behind it, or neither, around the last ones.
func chains(count int, last ...api.Tree) []api.Tree {
	if count == 0 {
		return last
	}
	var all []api.Tree
	z, k, l := tree(api.Str, "z"), tree(api.Str, "k"), tree(api.Str, "l")
	for _, next := range chains(count-1, last...) {
		for _, t := range []api.Tree{
			tree(api.Seq, "", next), tree(api.Seq, "", z, next), tree(api.Seq, "", next, z), tree(api.Map, "", k, next), tree(api.Map, "", k, z, l, next), tree(api.Map, "", k, next, l, z),
		} {
			all = append(all, t, anchored("x", t))
		}
	}
	return all
}

// drawnRowText is a text of rows that mean a value now and then.
func drawnRowText(draw *rand.Rand) string {
	var text strings.Builder
	for range 1 + draw.Intn(5) {
		text.WriteString(strings.Repeat(" ", one(draw, 0, 0, 2, 2, 4)))
		for range draw.Intn(3) {
			text.WriteString(one(draw, "- ", "a: ", "b: ", "&x ", "!!str "))
		}
		text.WriteString(one(draw, "", "a", "5", "[a, &x b]", "*x", "{a: *x}", "|", "# n", "- b", "'a'", "[", "\t", "{a: a, a: b}", "\x01"))
		text.WriteString(one(draw, "\n", "\n", "\n", "\r\n"))
		if draw.Intn(10) == 0 {
			text.WriteString("---\n")
		}
	}
	return text.String()
}
