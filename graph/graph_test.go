package graph_test

import (
	"fmt"
	"math"
	"math/rand"
	"reflect"
	"slices"
	"strconv"
	"strings"
	"testing"

	"grommet/api"
	"grommet/flow"
	"grommet/graph"
	"grommet/utf"
)

var null = api.Node{Kind: api.Null}

func boolean(text string) api.Node { return api.Node{Kind: api.Bool, Text: text} }
func number(text string) api.Node  { return api.Node{Kind: api.Int, Text: text} }
func str(text string) api.Node     { return api.Node{Kind: api.Str, Text: text} }
func seq(kids ...int) api.Node     { return api.Node{Kind: api.Seq, Kids: kids} }
func dict(kids ...int) api.Node    { return api.Node{Kind: api.Map, Kids: kids} }

// of is a graph whose Root is the first node.
func of(nodes ...api.Node) api.Graph { return api.Graph{Nodes: nodes} }

func rooted(root int, nodes ...api.Node) api.Graph { return api.Graph{Nodes: nodes, Root: root} }

// shown is the beginning of what is told of a value.
func shown(v any) string {
	s := fmt.Sprintf("%+v", v)
	return s[:min(len(s), 999)]
}

// written is the tree that a text means.
func written(t *testing.T, text string) api.Tree {
	t.Helper()
	tree, f := flow.Whole(text)
	if f != (api.Fault{}) {
		t.Fatalf("%.999q: %v", text, f)
	}
	return tree
}

// composed is the graph that a text means.
func composed(t *testing.T, text string) api.Graph {
	t.Helper()
	g, e := graph.Compose(written(t, text))
	if e != api.OK {
		t.Fatalf("%.999q: %v", text, e)
	}
	return g
}

func checkRight(t *testing.T, g api.Graph, want bool) {
	t.Helper()
	if got := graph.Right(g); got != want {
		t.Errorf("Right(%s): %v", shown(g), got)
	}
	// The words written a second time are held to the same.
	if got := wantRight(g); got != want {
		t.Errorf("wantRight(%s): %v", shown(g), got)
	}
	agree(t, g)
}

// agree holds all that is told of a graph against the words written a second time; it tells whether the graph may be.
func agree(t *testing.T, g api.Graph) bool {
	t.Helper()
	want := wantRight(g)
	if got := graph.Right(g); got != want {
		t.Fatalf("Right(%s): %v", shown(g), got)
	}
	if !want {
		checkRefused(t, g)
		return false
	}
	if got, e := graph.Order(g); !slices.Equal(got, wantOrder(g)) || e != api.OK {
		t.Fatalf("Order(%s): %s, %v, not %s", shown(g), shown(got), e, shown(wantOrder(g)))
	}
	if got, e := graph.Canon(g); !sameGraph(got, wantCanon(g)) || e != api.OK {
		t.Fatalf("Canon(%s): %s, %v, not %s", shown(g), shown(got), e, shown(wantCanon(g)))
	}
	if got, e := graph.Depth(g); got != wantDepth(g) || e != api.OK {
		t.Fatalf("Depth(%s): %d, %v, not %d", shown(g), got, e, wantDepth(g))
	}
	if len(g.Nodes) <= 64 {
		for at := -2; at < len(g.Nodes)+2; at++ {
			agreeSub(t, g, at)
		}
	}
	return true
}

func agreeSub(t *testing.T, g api.Graph, at int) {
	t.Helper()
	want, why := wantSub(g, at)
	if got, e := graph.Sub(g, at); !sameGraph(got, want) || e != why {
		t.Fatalf("Sub(%s, %d): %s, %v, not %s, %v", shown(g), at, shown(got), e, shown(want), why)
	}
}

// checkRefused asks that nothing is told of a graph that may not be.
func checkRefused(t *testing.T, g api.Graph) {
	t.Helper()
	if got, e := graph.Order(g); len(got) != 0 || e != api.ErrArg {
		t.Fatalf("Order(%s): %s, %v", shown(g), shown(got), e)
	}
	if got, e := graph.Canon(g); !sameGraph(got, api.Graph{}) || e != api.ErrArg {
		t.Fatalf("Canon(%s): %s, %v", shown(g), shown(got), e)
	}
	if got, e := graph.Depth(g); got != 0 || e != api.ErrArg {
		t.Fatalf("Depth(%s): %d, %v", shown(g), got, e)
	}
	for _, at := range []int{g.Root, 0, 1, -1, len(g.Nodes) - 1, len(g.Nodes), math.MinInt, math.MaxInt} {
		if got, e := graph.Sub(g, at); !sameGraph(got, api.Graph{}) || e != api.ErrArg {
			t.Fatalf("Sub(%s, %d): %s, %v", shown(g), at, shown(got), e)
		}
	}
}

// agreeCompose holds Compose against the words written a second time; it tells the error.
func agreeCompose(t *testing.T, tree api.Tree) api.Errno {
	t.Helper()
	want, why := wantCompose(tree)
	if got, e := graph.Compose(tree); !sameGraph(got, want) || e != why {
		t.Fatalf("Compose(%s): %s, %v, not %s, %v", shown(tree), shown(got), e, shown(want), why)
	}
	return why
}

func checkCompose(t *testing.T, text string, want api.Graph) {
	t.Helper()
	if got, e := graph.Compose(written(t, text)); !sameGraph(got, want) || e != api.OK {
		t.Errorf("Compose of %.999q: %s, %v, not %s", text, shown(got), e, shown(want))
	}
	agreeCompose(t, written(t, text))
}

func checkComposeError(t *testing.T, tree api.Tree, why api.Errno) {
	t.Helper()
	if got, e := graph.Compose(tree); !reflect.DeepEqual(got, api.Graph{}) || e != why {
		t.Errorf("Compose(%s): %s, %v, not %v", shown(tree), shown(got), e, why)
	}
	agreeCompose(t, tree)
}

// P12.1: Right

func TestGraphsThatMayBe(t *testing.T) {
	a, b, five := str("a"), str("b"), number("5")
	for _, g := range []api.Graph{
		of(null), of(boolean("true")), of(five), of(a), of(seq()), of(dict()),
		rooted(1, a, b), rooted(2, a, seq(), dict()),
		of(seq(1), a), of(seq(1, 2, 3), a, five, null), of(dict(1, 2), a, b), of(dict(1, 2, 3, 4), a, null, b, null),
		// In circles, and with parts that are shared.
		of(seq(0)), of(seq(0, 0, 0)), of(dict(1, 0), a), of(seq(1), seq(0)), of(seq(1, 1, 1), a), of(seq(1, 2), seq(2), a), of(dict(1, 3, 2, 3), a, b, five), of(dict(1, 2), a, dict(3, 0), a),
		// Nodes that are not reached.
		of(a, b), of(a, seq(0)), of(a, seq(1)), of(seq(), dict(2, 0), a), rooted(1, seq(1), a), of(a, b, dict(3, 4), five, null),
		// Keys of one text, and of one kind, but not of both; and of one in several Maps.
		of(dict(1, 2, 3, 4), str("5"), null, five, null), of(dict(1, 9, 2, 9, 3, 9, 4, 9, 5, 9, 6, 9, 7, 9, 8, 9), null, str(""), str("null"), boolean("true"), str("true"), boolean("false"), five, number("6"), a), of(seq(1, 3), dict(2, 5), a, dict(4, 5), a, null), of(dict(1, 2), a, dict(3, 4), a, a),
		// A value is like a key, or is a Map's value often.
		of(dict(1, 2), a, a), of(dict(1, 2, 3, 2), a, a, b), of(dict(1, 2), a, seq(2, 2, 0)),
	} {
		checkRight(t, g, true)
	}
}

func TestGraphsThatMayNotBe(t *testing.T) {
	a, b, five := str("a"), str("b"), number("5")
	for _, g := range []api.Graph{
		{}, {Nodes: []api.Node{}}, {Root: 1}, {Root: -1}, of(api.Node{}),
		// Kids of scalars.
		of(api.Node{Kind: api.Null, Kids: []int{0}}), of(api.Node{Kind: api.Bool, Text: "true", Kids: []int{0}}), of(api.Node{Kind: api.Int, Text: "5", Kids: []int{1, 1}}, a), of(api.Node{Kind: api.Str, Text: "a", Kids: []int{1}}, a), of(a, api.Node{Kind: api.Str, Kids: []int{0}}),
		// An odd number of a Map's Kids.
		of(dict(1), a), of(dict(1, 2, 3), a, b, five), of(seq(1), dict(2), a), of(a, dict(2), b), of(dict(1, 0, 2, 0, 3), a, b, five),
		// Keys that are no scalars.
		of(dict(1, 2), seq(), a), of(dict(1, 2), dict(), a), of(dict(1, 2, 3, 4), a, b, seq(), b), of(dict(1, 2, 3, 4), a, b, dict(), b), of(dict(0, 1), a), of(seq(0), dict(0, 0)), of(a, dict(1, 0)), of(a, dict(2, 0), seq()),
		// Two keys of one kind and text.
		of(dict(1, 2, 3, 4), a, b, a, b), of(dict(1, 2, 3, 4), null, b, null, b), of(dict(1, 2, 3, 4), five, b, five, b), of(dict(1, 2, 3, 4), boolean("true"), b, boolean("true"), b), of(dict(1, 2, 3, 4, 5, 6), a, b, b, b, a, b), of(dict(1, 2, 3, 4, 5, 6), five, null, a, null, a, null), of(a, dict(2, 0, 3, 0), b, b), of(dict(1, 2, 3, 4), str(""), b, str(""), b),
		// A key that is something else, too.
		of(dict(1, 1), a), of(dict(1, 0, 1, 0), a), of(dict(1, 0, 2, 1), a, b), of(dict(1, 2, 2, 1), a, b), of(dict(1, 2, 3, 1), a, null, b), of(seq(1, 2), dict(2, 3), a, b), of(seq(2, 1), dict(2, 3), a, b), of(seq(1, 2), dict(3, 4), dict(3, 4), a, b), of(dict(1, 2), a, seq(1)), of(dict(1, 2), a, dict(1, 3), b), of(seq(1), dict(2, 3), a, seq(2)),
		rooted(1, dict(1, 2), a, b), rooted(1, dict(2, 0, 1, 0), a, b), rooted(2, seq(1), dict(2, 0), a), of(a, dict(0, 2), b),
		// Also where it is not reached.
		of(dict(1, 2), a, b, seq(1)), of(dict(1, 2), a, b, dict(1, 2)), of(dict(1, 2), a, b, dict(4, 1), five), of(null, dict(2, 2), a), of(null, dict(2, 3), a, seq(2)), of(null, seq(9)), of(null, seq(-1)), of(null, api.Node{}), of(null, str("\xff")), of(null, api.Node{Kind: api.Alias}), of(null, api.Node{Kind: api.Null, Kids: []int{0}}),
	} {
		checkRight(t, g, false)
	}
}

func TestHowManyNodes(t *testing.T) {
	nodes := slices.Repeat([]api.Node{null}, 5000)
	for _, c := range []struct {
		count int
		want  bool
	}{{0, false}, {1, true}, {2, true}, {4095, true}, {4096, true}, {4097, false}, {5000, false}} {
		checkRight(t, of(nodes[:c.count]...), c.want)
		checkRight(t, rooted(c.count-1, nodes[:c.count]...), c.want)
		checkRight(t, rooted(c.count, nodes[:c.count]...), false)
		row := slices.Repeat([]api.Node{seq(0)}, c.count)
		checkRight(t, of(row...), c.want)
	}
	// A Map of as many keys as there may be.
	full := of(dict())
	for i := range 2047 {
		full.Nodes[0].Kids = append(full.Nodes[0].Kids, len(full.Nodes), 0)
		full.Nodes = append(full.Nodes, number(strconv.Itoa(i)))
		full.Nodes[0].Kids = append(full.Nodes[0].Kids, len(full.Nodes), 0)
		full.Nodes = append(full.Nodes, str(strconv.Itoa(i)))
	}
	checkRight(t, full, true)
	last := copied(full)
	last.Nodes[len(last.Nodes)-1] = number("0")
	checkRight(t, last, false)
}

func TestHowManyKids(t *testing.T) {
	kids := make([]int, 1<<20)
	for i := range kids {
		kids[i] = 1 + i%2
	}
	many := of(seq(kids...), null, str("a"))
	checkOrder(t, many, 0, 1, 2)
	if got, e := graph.Canon(many); !sameGraph(got, many) || e != api.OK {
		t.Error(len(got.Nodes), e)
	}
	if graph.Right(of(dict(kids...), null, str("a"))) {
		t.Error("a Map has its keys often")
	}
	if graph.Right(of(dict(make([]int, 1<<20)...))) {
		t.Error("a Map has itself as its keys")
	}
}

func TestPlaces(t *testing.T) {
	for _, at := range []int{math.MinInt, -3, -2, -1, 0, 1, 2, 3, 4, 5, 4095, 4096, math.MaxInt} {
		checkRight(t, rooted(at, null, null, null), at >= 0 && at <= 2)
		checkRight(t, of(seq(at), null, null), at >= 0 && at <= 2)
		checkRight(t, of(seq(1, 2, at), null, null), at >= 0 && at <= 2)
		checkRight(t, of(seq(at, 2, 1), null, null), at >= 0 && at <= 2)
		checkRight(t, of(null, null, seq(0, at)), at >= 0 && at <= 2)
		// A key, and a value.
		checkRight(t, of(dict(at, 2), null, null), at == 1)
		checkRight(t, of(dict(1, at), null, null), at == 0 || at == 2)
		checkRight(t, of(null, dict(2, at), null), at == 0 || at == 1)
	}
}

func TestKinds(t *testing.T) {
	texts := map[int]string{api.Bool: "true", api.Int: "5"}
	for _, kind := range []int{math.MinInt, -7, -1, 0, 1, 2, 3, 4, 5, 6, 7, 8, 9, 16, 257, math.MaxInt} {
		n := api.Node{Kind: kind, Text: texts[kind]}
		isOne := kind >= 1 && kind <= 6
		checkRight(t, of(n), isOne)
		checkRight(t, of(null, n), isOne)
		checkRight(t, of(seq(1), n), isOne)
		checkRight(t, of(dict(1, 2), str("k"), n), isOne)
		checkRight(t, of(dict(1, 2), n, null), kind >= 1 && kind <= 4)
		// All but Seqs and Maps have no Kids.
		n.Kids = []int{1, 2}
		checkRight(t, of(n, null, null), kind == 5 || kind == 6)
		checkRight(t, of(seq(3), str("a"), null, n), kind == 5 || kind == 6)
	}
}

// scalarTexts are texts, each with the kinds that may have it.
func scalarTexts() map[string][]int {
	return map[string][]int{
		"": {1, 4, 5, 6}, "~": {4}, "null": {4}, "Null": {4}, " ": {4}, "a": {4},
		"true": {2, 4}, "false": {2, 4}, "True": {4}, "true ": {4}, " true": {4}, "yes": {4}, "TRUE": {4},
		"0": {3, 4}, "5": {3, 4}, "-5": {3, 4}, "10": {3, 4}, "-0": {4}, "+5": {4}, "05": {4}, "-05": {4}, "5 ": {4}, "0x5": {4}, "5.0": {4}, "1_0": {4}, "1e3": {4}, "--5": {4}, "-": {4}, "\u0665": {4},
		"9223372036854775807": {3, 4}, "-9223372036854775808": {3, 4}, "9223372036854775808": {4}, "-9223372036854775809": {4}, "99999999999999999999999": {4},
		"a\nb": {4}, "\x00": {4}, "\x7f": {4}, "\t": {4}, "\u20ac": {4}, "\ufeff": {4}, "\U0010ffff": {4}, "\ufffd": {4},
		"\xff": {}, "a\xc3": {}, "\xc0\x80": {}, "\xed\xa0\x80": {}, "\xf4\x90\x80\x80": {}, "a\x80b": {}, "\xe2\x82": {},
		strings.Repeat("a", api.MaxKey+1): {4}, strings.Repeat("a", api.MaxText): {4}, strings.Repeat("\u20ac", api.MaxText): {4}, strings.Repeat("a", api.MaxText) + "\xff": {},
	}
}

func TestTexts(t *testing.T) {
	for text, kinds := range scalarTexts() {
		for kind := range 9 {
			n := api.Node{Kind: kind, Text: text}
			checkRight(t, of(n), slices.Contains(kinds, kind))
			checkRight(t, of(seq(2), n, null), slices.Contains(kinds, kind))
			checkRight(t, of(dict(1, 2), n, null), kind < 5 && slices.Contains(kinds, kind))
			// Layer 9 tells the same.
			if got := flow.Right(api.Tree{Kind: kind, Text: text}); kind != api.Alias && got != slices.Contains(kinds, kind) {
				t.Errorf("a tree of %d and %.99q: %v", kind, text, got)
			}
		}
	}
}

// smallNodes are nodes, of which graphs of a few places are made.
func smallNodes(count int) []api.Node {
	nodes := []api.Node{null, number("5"), str("5")}
	for first := range count {
		nodes = append(nodes, seq(first), dict(first))
		for second := range count {
			nodes = append(nodes, seq(first, second), dict(first, second))
		}
	}
	return append(nodes, seq(), dict())
}

func TestSmallGraphs(t *testing.T) {
	right, wrong := 0, 0
	for count := 1; count <= 3; count++ {
		kinds := smallNodes(count)
		total := 1
		for range count {
			total *= len(kinds)
		}
		for which := range total {
			var g api.Graph
			for range count {
				g.Nodes = append(g.Nodes, kinds[which%len(kinds)])
				which /= len(kinds)
			}
			for g.Root = range count {
				if agree(t, g) {
					right++
				} else {
					wrong++
				}
			}
		}
	}
	if right < 10000 || wrong < 10000 {
		t.Errorf("only %d may be, and %d may not", right, wrong)
	}
	// Two entries of one Map, with all keys and values.
	for which := range 7 * 7 * 7 * 7 {
		at := func() int { p := which % 7; which /= 7; return p }
		g := of(dict(at(), at(), at(), at()), null, number("5"), str("5"), str("5"), seq(0), str("6"))
		agree(t, g)
		g.Root = 5
		agree(t, g)
	}
}

func TestDrawnGraphs(t *testing.T) {
	draw := rand.New(rand.NewSource(1))
	circles, shared, lost := 0, 0, 0
	for n := range 20000 {
		g := drawnGraph(draw, 1+n%12)
		if !agree(t, g) {
			t.Fatalf("%s may not be", shown(g))
		}
		order := wantOrder(g)
		if len(order) < len(g.Nodes) {
			lost++
		}
		for _, at := range order {
			sub := wantCanon(api.Graph{Nodes: g.Nodes, Root: at})
			if slices.ContainsFunc(sub.Nodes, func(n api.Node) bool { return slices.Contains(n.Kids, 0) }) {
				circles++
				break
			}
		}
		kids := 0
		for _, at := range order {
			kids += len(g.Nodes[at].Kids)
		}
		if kids >= len(order) {
			shared++
		}
	}
	if circles < 2000 || shared < 2000 || lost < 2000 {
		t.Errorf("only %d in circles, %d that share, %d with nodes that are not reached", circles, shared, lost)
	}
}

func TestTurnedGraphs(t *testing.T) {
	draw := rand.New(rand.NewSource(2))
	right, wrong := 0, 0
	for n := range 60000 {
		g := turned(draw, drawnGraph(draw, 1+n%9))
		if agree(t, g) {
			right++
		} else {
			wrong++
		}
	}
	if right < 10000 || wrong < 10000 {
		t.Errorf("only %d may be, and %d may not", right, wrong)
	}
}

func TestGreatDrawnGraphs(t *testing.T) {
	draw := rand.New(rand.NewSource(3))
	for range 20 {
		g := drawnGraph(draw, 900)
		agree(t, g)
		for range 20 {
			agreeSub(t, g, draw.Intn(len(g.Nodes)+2)-1)
		}
	}
}

// P12.1: Order, Canon, Depth

func checkOrder(t *testing.T, g api.Graph, want ...int) {
	t.Helper()
	if got, e := graph.Order(g); !slices.Equal(got, want) || e != api.OK {
		t.Errorf("Order(%s): %s, %v, not %s", shown(g), shown(got), e, shown(want))
	}
}

func checkDepth(t *testing.T, g api.Graph, want int) {
	t.Helper()
	if got, e := graph.Depth(g); got != want || e != api.OK {
		t.Errorf("Depth(%s): %d, %v, not %d", shown(g), got, e, want)
	}
	agree(t, g)
}

func TestOrder(t *testing.T) {
	a, b := str("a"), str("b")
	checkOrder(t, of(null), 0)
	checkOrder(t, rooted(2, a, b, null, a), 2)
	checkOrder(t, of(seq(0)), 0)
	checkOrder(t, of(seq(2, 1), a, b), 0, 2, 1)
	checkOrder(t, of(seq(1, 1, 0, 1), a, b), 0, 1)
	checkOrder(t, rooted(1, a, seq(2, 0), b), 1, 2, 0)
	// A key is ahead of its value, and one entry ahead of the next.
	checkOrder(t, of(dict(4, 3, 2, 1), null, a, null, b), 0, 4, 3, 2, 1)
	checkOrder(t, of(dict(1, 2, 3, 4), a, seq(5), b, seq(6), a, b), 0, 1, 2, 5, 3, 4, 6)
	// All that is within a Kid is ahead of the next one, also what that one has, too, or is.
	checkOrder(t, of(seq(1, 2), seq(3), seq(4), a, b), 0, 1, 3, 2, 4)
	checkOrder(t, of(seq(1, 2), seq(2), seq(3), a), 0, 1, 2, 3)
	checkOrder(t, of(seq(1, 3), seq(2), seq(3), seq(1, 4), a), 0, 1, 2, 3, 4)
	checkOrder(t, of(seq(3, 2, 1), seq(3), seq(1), seq(0)), 0, 3, 2, 1)
	checkOrder(t, rooted(3, seq(1), seq(2), seq(0), seq(2)), 3, 2, 0, 1)
}

func TestDepth(t *testing.T) {
	a, b := str("a"), str("b")
	checkDepth(t, of(null), 1)
	checkDepth(t, of(seq()), 1)
	checkDepth(t, of(dict()), 1)
	checkDepth(t, of(seq(0)), 1)
	checkDepth(t, of(seq(0, 0)), 1)
	checkDepth(t, of(seq(1), a), 2)
	checkDepth(t, of(dict(1, 2), a, b), 2)
	// A key lies in its Map, and is enough.
	checkDepth(t, of(dict(1, 0), a), 2)
	checkDepth(t, of(seq(1), dict(2, 0), a), 3)
	checkDepth(t, of(seq(1, 2), seq(), seq(3), a), 3)
	checkDepth(t, of(seq(2, 1), seq(), seq(3), a), 3)
	checkDepth(t, of(seq(1), seq(0)), 2)
	checkDepth(t, of(seq(1), seq(2), seq(0)), 3)
	// What is not reached does not count.
	checkDepth(t, of(a, seq(2), seq(3), b), 1)
	checkDepth(t, rooted(2, seq(1), seq(2), seq(3), b), 2)
	// What is gone to over a long way lies there, also where a shorter one leads to it that comes later.
	checkDepth(t, of(seq(1, 2), seq(2), a), 3)
	checkDepth(t, of(seq(2, 1), seq(2), a), 2)
	checkDepth(t, of(seq(1, 3), seq(2), seq(3), seq(4), a), 5)
	checkDepth(t, of(seq(3, 1), seq(2), seq(3), seq(4), a), 3)
	checkDepth(t, of(seq(1, 2, 3), seq(2), seq(3), seq(1)), 4)
	checkDepth(t, of(seq(3, 2, 1), seq(2), seq(3), seq(1)), 4)
	checkDepth(t, of(dict(1, 2, 3, 4), a, seq(4), b, seq(5), null), 4)
	checkDepth(t, of(dict(3, 4, 1, 2), a, seq(4), b, seq(5), null), 3)
}

// longRow are Seqs, each with the next one in it.
func longRow(count int) api.Graph {
	var g api.Graph
	for i := range count - 1 {
		g.Nodes = append(g.Nodes, seq(i+1))
	}
	g.Nodes = append(g.Nodes, seq())
	return g
}

func TestALongRow(t *testing.T) {
	for _, count := range []int{1, 2, 63, 64, 65, 66, 1000, 4095, 4096} {
		g := longRow(count)
		checkDepth(t, g, count)
		if got, e := graph.Canon(g); !sameGraph(got, g) || e != api.OK {
			t.Errorf("Canon of %d: %s, %v", count, shown(got), e)
		}
		// From its last place to its first one.
		to := make([]int, count)
		for i := range to {
			to[i] = count - 1 - i
		}
		back := moved(g, to)
		checkOrder(t, back, to...)
		checkDepth(t, back, count)
		if got, e := graph.Canon(back); !sameGraph(got, g) || e != api.OK {
			t.Errorf("Canon of %d from the back: %s, %v", count, shown(got), e)
		}
		// From its middle on.
		agreeSub(t, g, count/2)
		if got, e := graph.Sub(g, count/2); !sameGraph(got, longRow(count-count/2)) || e != api.OK {
			t.Errorf("Sub of %d: %s, %v", count, shown(got), e)
		}
		// In a circle all of them are reached from each.
		g.Nodes[count-1].Kids = []int{0}
		checkDepth(t, g, count)
		if got, e := graph.Sub(g, count/2); !sameGraph(got, g) || e != api.OK {
			t.Errorf("Sub of %d in a circle: %s, %v", count, shown(got), e)
		}
		checkDepth(t, api.Graph{Nodes: g.Nodes, Root: count - 1}, count)
	}
	checkRefused(t, longRow(4097))
}

func TestCanon(t *testing.T) {
	a, b := str("a"), number("5")
	for _, c := range []struct{ g, want api.Graph }{
		{of(null), of(null)},
		{rooted(1, null, a), of(a)},
		{rooted(2, a, null, seq(2, 0)), of(seq(0, 1), a)},
		{of(seq(2, 1), a, b), of(seq(1, 2), b, a)},
		{rooted(3, b, a, null, dict(1, 0), seq(2)), of(dict(1, 2), a, b)},
		{rooted(2, a, b, dict(1, 3, 0, 2), seq(3, 2)), of(dict(1, 2, 3, 0), b, seq(2, 0), a)},
		{rooted(4, seq(), a, seq(0), seq(0), seq(3, 2, 1)), of(seq(1, 3, 4), seq(2), seq(), seq(2), a)},
	} {
		if got, e := graph.Canon(c.g); !sameGraph(got, c.want) || e != api.OK {
			t.Errorf("Canon(%v): %v, %v, not %v", c.g, got, e, c.want)
		}
		agree(t, c.g)
	}
}

func TestCanonKnowsNoPlaces(t *testing.T) {
	draw := rand.New(rand.NewSource(4))
	for n := range 10000 {
		g := drawnGraph(draw, 1+n%12)
		want, _ := graph.Canon(g)
		deep, _ := graph.Depth(g)
		// Nodes at other places, and more of them that are not reached, turn nothing.
		more := copied(g)
		for range draw.Intn(4) {
			more.Nodes = append(more.Nodes, one(draw, null, str("a"), seq(g.Root), seq(len(more.Nodes))))
		}
		more = moved(more, draw.Perm(len(more.Nodes)))
		if got, e := graph.Canon(more); !sameGraph(got, want) || e != api.OK {
			t.Fatalf("Canon(%v): %v, %v, not %v", more, got, e, want)
		}
		if got, e := graph.Depth(more); got != deep || e != api.OK {
			t.Fatalf("Depth(%v): %v, %v, not %v", more, got, e, deep)
		}
	}
}

// P12.1: Sub

func checkSub(t *testing.T, g api.Graph, at int, want api.Graph) {
	t.Helper()
	if got, e := graph.Sub(g, at); !sameGraph(got, want) || e != api.OK {
		t.Errorf("Sub(%v, %d): %v, %v, not %v", g, at, got, e, want)
	}
	agreeSub(t, g, at)
}

func checkNoSub(t *testing.T, g api.Graph, at int) {
	t.Helper()
	if got, e := graph.Sub(g, at); !reflect.DeepEqual(got, api.Graph{}) || e != api.ErrNone {
		t.Errorf("Sub(%v, %d): %v, %v", g, at, got, e)
	}
	agreeSub(t, g, at)
}

func TestSub(t *testing.T) {
	a, b, five := str("a"), str("b"), number("5")
	// 0 {a: 4, 5: 0}, 1 a, 2 5, 3 b, 4 [b, 5 [0, 4]], 6 {b: 4} and 7 b, which are not reached.
	g := of(dict(1, 4, 2, 0), a, five, b, seq(3, 5), seq(0, 4), dict(7, 4), b)
	checkSub(t, g, 0, of(dict(1, 2, 5, 0), a, seq(3, 4), b, seq(0, 2), five))
	checkSub(t, g, 3, of(b))
	checkSub(t, g, 4, of(seq(1, 2), b, seq(3, 0), dict(4, 0, 5, 3), a, five))
	checkSub(t, g, 5, of(seq(1, 3), dict(2, 3, 5, 1), a, seq(4, 0), b, five))
	checkSub(t, g, 6, of(dict(1, 2), b, seq(3, 4), b, seq(5, 2), dict(6, 2, 7, 5), a, five))
	// A key is told of wherever it is, and so is what is no place.
	for _, at := range []int{1, 2, 7, -1, -8, 8, 9, 4096, math.MinInt, math.MaxInt} {
		checkNoSub(t, g, at)
	}
	// The Root does not matter, where it is not reached again.
	for _, root := range []int{0, 3, 4, 5, 6} {
		other := api.Graph{Nodes: g.Nodes, Root: root}
		checkSub(t, other, 3, of(b))
		checkSub(t, other, 4, of(seq(1, 2), b, seq(3, 0), dict(4, 0, 5, 3), a, five))
		checkNoSub(t, other, 1)
		checkNoSub(t, other, 7)
	}
	checkSub(t, of(null), 0, of(null))
	checkNoSub(t, of(null), 1)
	checkNoSub(t, of(null), -1)
	checkSub(t, of(seq(0)), 0, of(seq(0)))
	checkSub(t, of(seq(1, 1), a), 1, of(a))
	// A value that is like a key is none.
	checkSub(t, of(dict(1, 2), a, a), 2, of(a))
	checkNoSub(t, of(dict(1, 2), a, a), 1)
	checkSub(t, of(dict(1, 2, 3, 4), a, five, b, null), 4, of(null))
	checkNoSub(t, of(dict(1, 2, 3, 4), a, five, b, null), 3)
	// The even Kids of a Seq are no keys.
	checkSub(t, of(seq(1, 2), a, b), 1, of(a))
}

func TestSubAtTheRootIsCanon(t *testing.T) {
	draw := rand.New(rand.NewSource(5))
	for n := range 5000 {
		g := drawnGraph(draw, 1+n%12)
		canon, _ := graph.Canon(g)
		checkSub(t, g, g.Root, canon)
	}
}

// P12.1: Scalar

func TestScalar(t *testing.T) {
	for text, kinds := range scalarTexts() {
		for kind := -1; kind < 9; kind++ {
			got, e := graph.Scalar(kind, text)
			want, why := api.Graph{}, api.ErrArg
			if kind < 5 && slices.Contains(kinds, kind) {
				want, why = of(api.Node{Kind: kind, Text: text}), api.OK
			}
			if !sameGraph(got, want) || e != why {
				t.Errorf("Scalar(%d, %.99q): %s, %v", kind, text, shown(got), e)
			}
			if e == api.OK && !graph.Right(got) {
				t.Errorf("Scalar(%d, %.99q) may not be", kind, text)
			}
		}
	}
	for _, kind := range []int{math.MinInt, -4, 0, api.Seq, api.Map, api.Alias, 8, 260, math.MaxInt} {
		for _, text := range []string{"", "a", "5", "true"} {
			if got, e := graph.Scalar(kind, text); !reflect.DeepEqual(got, api.Graph{}) || e != api.ErrArg {
				t.Errorf("Scalar(%d, %q): %v, %v", kind, text, got, e)
			}
		}
	}
}

func TestScalarOfSigns(t *testing.T) {
	for sign := 0; sign <= 0x10ffff; sign += 1 + sign/0x900 {
		text, e := utf.Encode(sign)
		if e != api.OK {
			continue
		}
		if got, e := graph.Scalar(api.Str, text); !sameGraph(got, of(str(text))) || e != api.OK {
			t.Fatalf("Scalar(Str, %q): %v, %v", text, got, e)
		}
		cut := text[:len(text)-1] + "\xff"
		if got, e := graph.Scalar(api.Str, cut); len(got.Nodes) != 0 || e != api.ErrArg {
			t.Fatalf("Scalar(Str, %q): %v, %v", cut, got, e)
		}
	}
}

// P12.1: Same

func checkSame(t *testing.T, a, b api.Graph, want bool) {
	t.Helper()
	if got := graph.Same(a, b); got != want {
		t.Fatalf("Same(%v, %v): %v", a, b, got)
	}
	if got := graph.Same(b, a); got != want {
		t.Fatalf("Same(%v, %v): %v", b, a, got)
	}
}

func TestSame(t *testing.T) {
	g := rooted(1, str("a"), dict(3, 2, 4, 0), seq(0, 1, 2), number("5"), boolean("true"), null)
	checkSame(t, g, copied(g), true)
	// Each place alone tells them apart.
	for i := range g.Nodes {
		for _, turn := range []func(*api.Node){
			func(n *api.Node) { n.Kind++ },
			func(n *api.Node) { n.Kind = -n.Kind },
			func(n *api.Node) { n.Text += "a" },
			func(n *api.Node) { n.Kids = append(n.Kids, 0) },
			func(n *api.Node) { n.Kids = append([]int{5}, n.Kids...) },
		} {
			other := copied(g)
			turn(&other.Nodes[i])
			checkSame(t, g, other, false)
		}
		for k := range g.Nodes[i].Kids {
			other := copied(g)
			other.Nodes[i].Kids[k]++
			checkSame(t, g, other, false)
			other.Nodes[i].Kids = other.Nodes[i].Kids[:k]
			checkSame(t, g, other, false)
		}
		other := copied(g)
		other.Nodes = other.Nodes[:i]
		checkSame(t, g, other, false)
	}
	for _, root := range []int{-1, 0, 2, 3, 4, 5, 6} {
		checkSame(t, g, api.Graph{Nodes: g.Nodes, Root: root}, false)
	}
	more := copied(g)
	more.Nodes = append(more.Nodes, null)
	checkSame(t, g, more, false)
	// What means the same at other places is not the same.
	checkSame(t, of(seq(1, 2), null, str("a")), of(seq(2, 1), str("a"), null), false)
	checkSame(t, of(seq(1, 1), null), of(seq(1, 2), null, null), false)
	checkSame(t, of(null), of(null, null), false)
	checkSame(t, of(seq(0)), of(seq(1), seq(0)), false)
	checkSame(t, of(dict(1, 2, 3, 4), str("a"), null, str("b"), null), of(dict(3, 4, 1, 2), str("a"), null, str("b"), null), false)
}

func TestSameOfNothing(t *testing.T) {
	checkSame(t, api.Graph{}, api.Graph{Nodes: []api.Node{}}, true)
	checkSame(t, api.Graph{}, api.Graph{Root: 1}, false)
	checkSame(t, api.Graph{}, of(api.Node{}), false)
	checkSame(t, of(seq()), of(api.Node{Kind: api.Seq, Kids: []int{}}), true)
	checkSame(t, of(null), of(api.Node{Kind: api.Null, Kids: make([]int, 0, 5)}), true)
}

func TestSameOfGraphsThatMayNotBe(t *testing.T) {
	for _, g := range []api.Graph{rooted(-7, api.Node{Kind: 99, Text: "\xff", Kids: []int{math.MinInt, 9}}), rooted(math.MaxInt, null, dict(5)), of(slices.Repeat([]api.Node{null}, 5000)...)} {
		checkSame(t, g, copied(g), true)
		other := copied(g)
		other.Nodes[0].Kids = append(other.Nodes[0].Kids, 1)
		checkSame(t, g, other, false)
	}
}

func TestSameOfDrawnGraphs(t *testing.T) {
	draw := rand.New(rand.NewSource(6))
	same, apart := 0, 0
	for n := range 20000 {
		g := drawnGraph(draw, 1+n%6)
		other := turned(draw, g)
		if sameGraph(g, other) {
			same++
		} else {
			apart++
		}
		checkSame(t, g, other, sameGraph(g, other))
		checkSame(t, g, copied(g), true)
	}
	if same < 500 || apart < 10000 {
		t.Errorf("only %d are the same, and %d not", same, apart)
	}
}
