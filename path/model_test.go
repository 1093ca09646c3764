package path_test

import (
	"fmt"
	"math/rand"
	"regexp"
	"slices"
	"sort"
	"strings"
	"unicode/utf8"

	"grommet/api"
	"grommet/graph"
	"grommet/path"
	"grommet/quote"
)

// The chapter's words, written a second time: a path's text as a pattern, so that a byte may stand where what ends with it can go on to such a text; of several faults the first one by its byte; a place by the last step from where the others lead. The numbers are the document's.

// part is a byte outside of quotes, or a quoted key: the pattern's sign for it, and where it stands.
type part struct {
	sign byte
	at   int
	key  string
	f    api.Fault
}

const (
	keyForm   = `(?:[a0-9]+|Q)`
	indexForm = `\[(?:0|[1-9][0-9]{0,5})\]`
)

var (
	pathForm  = regexp.MustCompile(`\A(?:(?:` + keyForm + `|` + indexForm + `)(?:\.` + keyForm + `|` + indexForm + `)*)?\z`)
	plainForm = regexp.MustCompile(`\A[-_0-9A-Za-z]+\z`)
)

// partsOf are a text's: Q is a quoted key, X one that layer 7 refuses, ? what stands nowhere.
func partsOf(s string) []part {
	var all []part
	for at := 0; at < len(s); at++ {
		next := part{sign: '?', at: at, key: s[at : at+1]}
		switch {
		case s[at] == '"':
			key, long, f := quote.Read(s[at:])
			if f.Why != 0 {
				return append(all, part{sign: 'X', at: at, f: api.Fault{Why: f.Why, At: f.At + at}})
			}
			next.sign, next.key = 'Q', key
			at += long - 1
		case strings.IndexByte("0123456789.[]", s[at]) >= 0:
			next.sign = s[at]
		case plainForm.MatchString(s[at : at+1]):
			next.sign = 'a'
		}
		all = append(all, next)
	}
	return all
}

// mayBegin tells whether a path's text may begin so.
func mayBegin(signs string) bool {
	return slices.ContainsFunc([]string{"", "a", "]", "0]"}, func(rest string) bool {
		return pathForm.MatchString(signs + rest)
	})
}

func wantParse(s string) ([]path.Step, api.Fault) {
	parts := partsOf(s)
	signs := ""
	for _, p := range parts {
		signs += string(rune(p.sign))
	}
	// What may stand ahead of the first part that may not.
	good := sort.Search(len(parts), func(n int) bool { return !mayBegin(signs[:n+1]) })
	var faults []api.Fault
	switch {
	case good < len(parts) && signs[good] == 'X' && mayBegin(signs[:good]+"Q"):
		faults = append(faults, parts[good].f)
	case good < len(parts):
		faults = append(faults, api.Fault{Why: 3, At: parts[good].at})
	case !pathForm.MatchString(signs):
		faults = append(faults, api.Fault{Why: 4, At: len(s)})
	}
	var steps []path.Step
	for i, p := range parts[:good] {
		if i == 0 || p.sign == '.' || p.sign == '[' {
			steps = append(steps, path.Step{At: p.sign == '['})
			if len(steps) == 65 {
				faults = append(faults, api.Fault{Why: 5, At: p.at})
			}
		}
		last := &steps[len(steps)-1]
		switch {
		case strings.IndexByte(".[]", p.sign) >= 0:
		case last.At:
			last.Index = 10*last.Index + int(p.sign-'0')
		default:
			last.Key += p.key
			if p.sign == 'Q' && len(last.Key) > 256 || p.sign != 'Q' && len(last.Key) == 257 {
				faults = append(faults, api.Fault{Why: 5, At: beginOf(parts[:i+1])})
			}
		}
	}
	if len(faults) == 0 {
		return steps, api.Fault{}
	}
	return nil, slices.MinFunc(faults, func(x, y api.Fault) int { return x.At - y.At })
}

// beginOf is where the last step of the parts begins.
func beginOf(parts []part) int {
	for _, p := range slices.Backward(parts) {
		if p.sign == '.' || p.sign == '[' {
			return p.at
		}
	}
	return 0
}

func wantFormat(l []path.Step) (string, api.Errno) {
	text := ""
	why := api.Errno(0)
	for _, step := range l {
		switch {
		case step.At && (step.Index < 0 || step.Index >= 1000000), !step.At && len(step.Key) >= 257:
			return "", 5
		case step.At:
			text += fmt.Sprintf("[%d]", step.Index)
		case !utf8.ValidString(step.Key):
			why = 8
		case plainForm.MatchString(step.Key):
			text += "." + step.Key
		default:
			quoted, _ := quote.Double(step.Key)
			text += "." + quoted
		}
	}
	switch {
	case len(l) >= 65:
		return "", 5
	case why != 0:
		return "", why
	}
	return strings.TrimPrefix(text, "."), 0
}

// told is a text of what counts of a path's steps.
func told(l []path.Step) string {
	text := ""
	for _, step := range l {
		if step.At {
			text += fmt.Sprintf("%d;", step.Index)
		} else {
			text += fmt.Sprintf("%q;", step.Key)
		}
	}
	return text
}

// wantGet goes from the path's end back.
func wantGet(g api.Graph, l []path.Step) (int, api.Errno) {
	if _, e := wantFormat(l); e != 0 || !graph.Right(g) {
		return 0, 1
	}
	if len(l) == 0 {
		return g.Root, 0
	}
	at, e := wantGet(g, l[:len(l)-1])
	if e != 0 {
		return 0, e
	}
	n, last := g.Nodes[at], l[len(l)-1]
	if n.Kind != 5 && last.At || n.Kind != 6 && !last.At {
		return 0, 17
	}
	for i, kid := range n.Kids {
		if last.At && i == last.Index {
			return kid, 0
		}
		if key := g.Nodes[kid]; !last.At && i%2 == 0 && key.Kind == 4 && key.Text == last.Key {
			return n.Kids[i+1], 0
		}
	}
	return 0, 6
}

// What is drawn

func one[T any](draw *rand.Rand, list ...T) T {
	return list[draw.Intn(len(list))]
}

// drawnKey is one of few, or any text.
func drawnKey(draw *rand.Rand) string {
	switch draw.Intn(8) {
	case 0:
		text := ""
		for range draw.Intn(6) {
			text += one(draw, "a", "Z", "0", "-", "_", ".", "[", "]", `"`, `\`, "'", " ", "\n", "\x00", "\x7f", "\u00e9", "\u20ac", "\ufeff", "\U0001f600")
		}
		return text
	case 1:
		return strings.Repeat(one(draw, "a", "7", "-", " ", "\x01", "\u00e9"), draw.Intn(129))
	}
	return one(draw, "", "a", "b", "5", "x y", "null", "a.b", "[0]", "\u20ac")
}

// drawnPath has steps that may be.
func drawnPath(draw *rand.Rand, most int) []path.Step {
	var l []path.Step
	for range draw.Intn(most + 1) {
		step := path.Step{Key: drawnKey(draw)}
		if draw.Intn(2) == 0 {
			step = path.Step{Index: one(draw, 0, 1, 2, 9, 10, 999999, draw.Intn(1000000)), At: true}
		}
		l = append(l, step)
	}
	return l
}

// spoiltPath is one with something else in it, so that it may be none.
func spoiltPath(draw *rand.Rand, l []path.Step) []path.Step {
	l = slices.Clone(l)
	for range 1 + draw.Intn(3) {
		if len(l) == 0 {
			return l
		}
		step := &l[draw.Intn(len(l))]
		switch draw.Intn(5) {
		case 0:
			step.At = !step.At
		case 1:
			step.Index = one(draw, -1, 0, 1, 999999, 1000000, -1<<63, 1<<63-1)
		case 2:
			step.Key = one(draw, "", "a", "\xff", "a\xc3", "\xed\xa0\x80", strings.Repeat("a", 256), strings.Repeat("a", 257), strings.Repeat("\xff", 257), strings.Repeat("\u00e9", 129))
		case 3:
			l = slices.Repeat(l, 1+draw.Intn(70/len(l)+1))
		default:
			*step = path.Step{Key: "a", Index: 1, At: step.At}
		}
	}
	return l
}

// turnedText is a text with another byte, or with one more or one less.
func turnedText(draw *rand.Rand, s string) string {
	at := draw.Intn(len(s) + 1)
	next := one(draw, ".", "[", "]", `"`, "a", "0", "7", "\\", " ", "\xc3", "x", "_", string(rune(draw.Intn(256))), "", "")
	if draw.Intn(2) == 0 || at == len(s) {
		return s[:at] + next + s[at:]
	}
	return s[:at] + next + s[at+1:]
}

// drawnScalar is one of few, so that several are drawn often.
func drawnScalar(draw *rand.Rand) api.Node {
	switch draw.Intn(5) {
	case 0:
		return null
	case 1:
		return boolean(one(draw, "true", "false"))
	case 2:
		return number(one(draw, "0", "5", "-5"))
	}
	return str(one(draw, "", "a", "b", "c", "5", "null", "true", "x y", "\u20ac"))
}

// hasKey tells whether a key is there among the Kids of a Map.
func hasKey(nodes []api.Node, kids []int, key api.Node) bool {
	for k := 0; k < len(kids); k += 2 {
		if nodes[kids[k]].Kind == key.Kind && nodes[kids[k]].Text == key.Text {
			return true
		}
	}
	return false
}

// drawnGraph is one that may be, with places in any order, some of which may not be reached.
func drawnGraph(draw *rand.Rand, most int) api.Graph {
	count := 1 + draw.Intn(most)
	nodes := make([]api.Node, count)
	kinds := one(draw, []int{api.Seq, api.Map, api.Str}, []int{api.Seq, api.Seq, api.Str}, []int{api.Map}, []int{api.Seq, api.Map})
	for i := range count {
		kind := one(draw, kinds...)
		if kind == api.Str {
			nodes[i] = drawnScalar(draw)
			continue
		}
		var kids []int
		for range draw.Intn(6) {
			if kind == api.Map {
				key := drawnScalar(draw)
				if hasKey(nodes, kids, key) {
					continue
				}
				kids = append(kids, len(nodes))
				nodes = append(nodes, key)
			}
			kids = append(kids, draw.Intn(count))
		}
		nodes[i] = api.Node{Kind: kind, Kids: kids}
	}
	return moved(draw, api.Graph{Nodes: nodes, Root: draw.Intn(count)})
}

// moved is a graph whose nodes lie at other places.
func moved(draw *rand.Rand, g api.Graph) api.Graph {
	to := draw.Perm(len(g.Nodes))
	m := api.Graph{Nodes: make([]api.Node, len(g.Nodes)), Root: to[g.Root]}
	for i, n := range g.Nodes {
		kids := make([]int, len(n.Kids))
		for k, kid := range n.Kids {
			kids[k] = to[kid]
		}
		m.Nodes[to[i]] = api.Node{Kind: n.Kind, Text: n.Text, Kids: kids}
	}
	return m
}

// turned is a graph in which one thing is another one, so that it may be no longer.
func turned(draw *rand.Rand, g api.Graph) api.Graph {
	g = copied(g)
	n := &g.Nodes[draw.Intn(len(g.Nodes))]
	place := draw.Intn(len(g.Nodes)+2) - 1
	switch draw.Intn(6) {
	case 0:
		g.Root = place
	case 1:
		n.Kind = draw.Intn(9)
	case 2:
		n.Text = one(draw, "", "a", "true", "5", "05", "\xff")
	case 3:
		n.Kids = append(n.Kids, place)
	case 4:
		n.Kids = n.Kids[:max(0, len(n.Kids)-1)]
	default:
		if len(n.Kids) > 0 {
			n.Kids[draw.Intn(len(n.Kids))] = place
		}
	}
	return g
}

// copied is a graph that shares nothing with another one.
func copied(g api.Graph) api.Graph {
	g.Nodes = slices.Clone(g.Nodes)
	for i := range g.Nodes {
		g.Nodes[i].Kids = slices.Clone(g.Nodes[i].Kids)
	}
	return g
}

// drawnWay mostly leads somewhere in a graph that may be: at each node a step that may be gone, or any one.
func drawnWay(draw *rand.Rand, g api.Graph, most int) []path.Step {
	var l []path.Step
	at := g.Root
	for range draw.Intn(most + 1) {
		n := g.Nodes[at]
		which := 0
		if len(n.Kids) > 0 {
			which = draw.Intn(len(n.Kids))
		}
		switch {
		case draw.Intn(12) == 0 || len(n.Kids) == 0:
			return append(l, drawnPath(draw, 2)...)
		case n.Kind == api.Seq:
			l = append(l, index(which))
		default:
			which |= 1
			l = append(l, key(g.Nodes[n.Kids[which-1]].Text))
			if g.Nodes[n.Kids[which-1]].Kind != api.Str {
				return l
			}
		}
		at = n.Kids[which]
	}
	return l
}
