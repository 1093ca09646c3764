package lay_test

import (
	"fmt"
	"math"
	"math/rand"
	"slices"
	"strconv"
	"strings"
	"testing"

	"grommet/api"
	"grommet/flow"
	"grommet/graph"
	"grommet/iso"
	"grommet/lay"
)

var null = api.Node{Kind: api.Null}

func boolean(text string) api.Node { return api.Node{Kind: api.Bool, Text: text} }
func number(text string) api.Node  { return api.Node{Kind: api.Int, Text: text} }
func str(text string) api.Node     { return api.Node{Kind: api.Str, Text: text} }
func seq(kids ...int) api.Node     { return api.Node{Kind: api.Seq, Kids: kids} }
func dict(kids ...int) api.Node    { return api.Node{Kind: api.Map, Kids: kids} }

// of is a graph whose Root is the first node.
func of(nodes ...api.Node) api.Graph { return api.Graph{Nodes: nodes} }

func rooted(root int, nodes ...api.Node) api.Graph { return api.Graph{Nodes: nodes, Root: root} }

// shown is the beginning of what is told of a value.
func shown(v any) string {
	s := fmt.Sprintf("%+v", v)
	return s[:min(len(s), 999)]
}

// agree holds both calls against the words written a second time, and asks what follows from them; it tells Tree's error.
func agree(t *testing.T, g api.Graph) api.Errno {
	t.Helper()
	w := wantOf(g)
	got, e := lay.Tree(g)
	if !sameTree(got, w.tree) || e != w.why {
		t.Fatalf("Tree(%s): %s, %v, not %s, %v", shown(g), text(got), e, text(w.tree), w.why)
	}
	if size, e := lay.Size(g); size != w.size || e != w.sizeOf {
		t.Fatalf("Size(%s): %d, %v, not %d, %v", shown(g), size, e, w.size, w.sizeOf)
	}
	if e == api.OK {
		checkComposed(t, g, got)
		checkTrimmed(t, got)
		checkAnchors(t, g, got)
	}
	return e
}

// checkTree asks for a tree by its text.
func checkTree(t *testing.T, g api.Graph, want string) {
	t.Helper()
	got, e := lay.Tree(g)
	if s, wrong := flow.Write(got); s != want || wrong != api.OK || e != api.OK {
		t.Fatalf("Tree(%s): %s (%v), %v, not %s", shown(g), s, wrong, e, want)
	}
	if e := agree(t, g); e != api.OK {
		t.Fatalf("Tree(%s): %v", shown(g), e)
	}
	draw := rand.New(rand.NewSource(int64(len(want))))
	for range 4 {
		other := moved(draw, g)
		got, e := lay.Tree(other)
		if s, _ := flow.Write(got); s != want || e != api.OK {
			t.Fatalf("moved, Tree(%s): %s, %v, not %s", shown(other), s, e, want)
		}
	}
}

// checkRefused asks for an error of Tree, and for Size's answer.
func checkRefused(t *testing.T, g api.Graph, why api.Errno, size int, sizeOf api.Errno) {
	t.Helper()
	if got, e := lay.Tree(g); !sameTree(got, api.Tree{}) || e != why {
		t.Fatalf("Tree(%s): %s, %v, not %v", shown(g), shown(got), e, why)
	}
	if got, e := lay.Size(g); got != size || e != sizeOf {
		t.Fatalf("Size(%s): %d, %v, not %d, %v", shown(g), got, e, size, sizeOf)
	}
}

// checkSize asks for how many trees a graph's tree has; it must have one.
func checkSize(t *testing.T, g api.Graph, want int) {
	t.Helper()
	if got, e := lay.Size(g); got != want || e != api.OK {
		t.Fatalf("Size(%s): %d, %v, not %d", shown(g), got, e, want)
	}
	got, e := lay.Tree(g)
	if len(values(&got)) != want || e != api.OK {
		t.Fatalf("Tree(%s): %d trees, %v, not %d", shown(g), len(values(&got)), e, want)
	}
}

// P14.1

func TestExample(t *testing.T) {
	checkTree(t, of(seq(0, 1), number("5")), "&a1 [*a1, 5]")
}

func TestTreesWithoutSharing(t *testing.T) {
	a, b, five := str("a"), str("b"), number("5")
	for _, x := range []struct {
		g    api.Graph
		want string
		size int
	}{
		{of(null), "null", 1}, {of(boolean("true")), "true", 1}, {of(boolean("false")), "false", 1}, {of(number("-5")), "-5", 1}, {of(str("5")), `"5"`, 1}, {of(a), "a", 1}, {of(str("")), `""`, 1}, {of(str("a\n\x00b")), `"a\n\0b"`, 1}, {of(str("*a1")), `"*a1"`, 1}, {of(seq()), "[]", 1}, {of(dict()), "{}", 1},
		{of(seq(1, 2, 3), a, five, null), "[a, 5, null]", 4}, {of(dict(1, 2, 3, 4), a, b, five, null), "{a: b, 5: null}", 5},
		{of(seq(1, 5), seq(2, 3), a, seq(4), b, five), "[[a, [b]], 5]", 6}, {of(dict(1, 2, 6, 7), a, seq(3), dict(4, 5), b, five, str("c"), dict()), "{a: [{b: 5}], c: {}}", 8},
		// What is like another value is no part that is shared.
		{of(seq(1, 2, 3, 4), a, a, seq(), seq()), "[a, a, [], []]", 5}, {of(dict(1, 2), a, a), "{a: a}", 3}, {of(seq(1, 3), dict(2, 5), a, dict(4, 6), a, b, b), "[{a: b}, {a: b}]", 7},
		// A Map's entries stand as they are, whether they rise or not.
		{of(dict(1, 2, 3, 4), b, null, a, null), "{b: null, a: null}", 5},
	} {
		checkTree(t, x.g, x.want)
		checkSize(t, x.g, x.size)
	}
	// Fields that have no meaning are zero.
	if got, e := lay.Tree(of(dict(1, 2), a, five)); got.Kind != api.Map || got.Text != "" || got.Anchor != "" || len(got.Kids) != 2 || !sameTree(got.Kids[0], api.Tree{Kind: api.Str, Text: "a"}) || !sameTree(got.Kids[1], api.Tree{Kind: api.Int, Text: "5"}) || e != api.OK {
		t.Error(got, e)
	}
}

func TestTreesWithSharing(t *testing.T) {
	a, b, five := str("a"), str("b"), number("5")
	for _, x := range []struct {
		g    api.Graph
		want string
		size int
	}{
		// The Root, that is a Kid, too.
		{of(seq(0)), "&a1 [*a1]", 2}, {of(seq(0, 0)), "&a1 [*a1, *a1]", 3}, {of(dict(1, 0), a), "&a1 {a: *a1}", 3}, {of(seq(1), seq(0)), "&a1 [[*a1]]", 3}, {rooted(1, seq(1), seq(0)), "&a1 [[*a1]]", 3}, {of(seq(1, 0), seq(0)), "&a1 [[*a1], *a1]", 4}, {of(seq(1), dict(2, 3), a, seq(0)), "&a1 [{a: [*a1]}]", 5},
		// A circle behind the Root.
		{of(seq(1), seq(1)), "[&a1 [*a1]]", 3}, {of(seq(1), seq(2), seq(1)), "[&a1 [[*a1]]]", 4}, {of(seq(1, 1), seq(1)), "[&a1 [*a1], *a1]", 4}, {of(seq(1), seq(2, 1), seq(2, 1, 0)), "&a1 [&a2 [&a3 [*a3, *a2, *a1], *a2]]", 7},
		// Twice a Kid of one node.
		{of(seq(1, 1), a), "[&a1 a, *a1]", 3}, {of(seq(1, 1, 1), null), "[&a1 null, *a1, *a1]", 4}, {of(seq(1, 2, 1, 2), a, b), "[&a1 a, &a2 b, *a1, *a2]", 5}, {of(seq(1, 2, 2, 1), a, b), "[&a1 a, &a2 b, *a2, *a1]", 5}, {of(seq(1, 1), seq()), "[&a1 [], *a1]", 3}, {of(seq(1, 1), dict(2, 3), a, five), "[&a1 {a: 5}, *a1]", 5}, {of(seq(1, 1), boolean("true")), "[&a1 true, *a1]", 3}, {of(seq(1, 1), str("5")), `[&a1 "5", *a1]`, 3},
		// A key's value.
		{of(dict(1, 2, 3, 2), a, five, b), "{a: &a1 5, b: *a1}", 5}, {of(dict(1, 2, 3, 2), a, seq(), b), "{a: &a1 [], b: *a1}", 5}, {of(seq(1, 3), dict(2, 3), a, five), "[{a: &a1 5}, *a1]", 5}, {of(seq(3, 1), dict(2, 3), a, five), "[&a1 5, {a: *a1}]", 5}, {of(dict(1, 2, 3, 4), a, dict(5, 4), b, null, a), "{a: {a: &a1 null}, b: *a1}", 7}, {of(dict(1, 0, 2, 3, 4, 3), a, b, dict(5, 0), five, a), "&a1 {a: *a1, b: &a2 {a: *a1}, 5: *a2}", 9},
		// A Kid of two nodes, and of one within it.
		{of(seq(1, 2), seq(3), seq(3), a), "[[&a1 a], [*a1]]", 5}, {of(seq(1, 2), seq(2), a), "[[&a1 a], *a1]", 4}, {of(seq(2, 1), seq(2), a), "[&a1 a, [*a1]]", 4}, {of(seq(1, 2), seq(2), seq(1)), "[&a1 [&a2 [*a1]], *a2]", 5},
		// Numbers go by the order of what is shared, not of the Aliases, nor of the places.
		{of(seq(1, 2), seq(3, 1), seq(4, 2, 3, 4), a, b), "[&a1 [&a2 a, *a1], &a3 [&a4 b, *a3, *a2, *a4]]", 9}, {of(seq(4, 3, 2, 1, 1, 2, 3, 4), null, a, b, five), "[&a1 5, &a2 b, &a3 a, &a4 null, *a4, *a3, *a2, *a1]", 9}, {rooted(2, a, b, seq(1, 4, 0, 1, 3, 0), five, null), "[&a1 b, null, &a2 a, *a1, 5, *a2]", 7},
		// What is like another value has an Anchor of its own.
		{of(seq(1, 2, 2, 1), a, a), "[&a1 a, &a2 a, *a2, *a1]", 5},
		// Texts that look so are no Anchors.
		{of(seq(1, 1), str("a1")), "[&a1 a1, *a1]", 3}, {of(dict(1, 2, 3, 2), str("a1"), str("&a1"), str("*a1")), `{a1: &a1 "&a1", "*a1": *a1}`, 5},
	} {
		checkTree(t, x.g, x.want)
		checkSize(t, x.g, x.size)
	}
	// Fields of an Alias that have no meaning are zero.
	if got, e := lay.Tree(of(seq(1, 1), a)); len(got.Kids) != 2 || !sameTree(got.Kids[0], api.Tree{Kind: api.Str, Text: "a", Anchor: "a1"}) || !sameTree(got.Kids[1], api.Tree{Kind: api.Alias, Anchor: "a1"}) || e != api.OK {
		t.Error(got, e)
	}
}

func TestWhatIsNotReached(t *testing.T) {
	a, five := str("a"), number("5")
	for _, x := range []struct {
		g    api.Graph
		want string
		size int
	}{
		// They are no trees.
		{of(a, five), "a", 1}, {rooted(1, a, five), "5", 1}, {of(seq(1), a, seq(), dict(), null), "[a]", 2}, {rooted(3, seq(0), dict(4, 2), seq(1, 1), seq(), a), "[]", 1}, {of(seq(), seq(2), seq(1)), "[]", 1},
		// A Kid a second time, but only of such.
		{of(seq(1), a, seq(1)), "[a]", 2}, {of(seq(1), a, seq(1, 1, 1)), "[a]", 2}, {of(seq(1), a, dict(3, 1), five), "[a]", 2}, {of(dict(1, 2), a, five, seq(2, 2)), "{a: 5}", 3}, {of(seq(1, 2), seq(), a, seq(1, 2)), "[[], a]", 3},
		// The Root, a Kid only of such.
		{of(a, seq(0)), "a", 1}, {of(seq(), seq(0, 0)), "[]", 1}, {rooted(1, seq(1), seq(2), a), "[a]", 2}, {of(dict(), seq(0, 1), dict(3, 0), a), "{}", 1},
		// They turn no number of others.
		{of(seq(1, 2, 2), a, five, seq(1, 3)), "[a, &a1 5, *a1]", 4}, {rooted(3, seq(0, 1), a, five, seq(1, 2, 4, 2, 4), null), "[a, &a1 5, &a2 null, *a1, *a2]", 6},
	} {
		checkTree(t, x.g, x.want)
		checkSize(t, x.g, x.size)
	}
}

func TestGraphsThatMayNotBe(t *testing.T) {
	a, b := str("a"), str("b")
	for _, wrong := range []api.Graph{
		// The Root, and how many nodes.
		{}, {Root: 1}, rooted(1, a), rooted(-1, a), rooted(math.MaxInt, a), rooted(math.MinInt, a), of(slices.Repeat([]api.Node{a}, 4097)...),
		// Kinds and texts.
		of(api.Node{}), of(api.Node{Kind: api.Alias}), of(api.Node{Kind: api.Alias, Text: "a1"}), of(api.Node{Kind: 8}), of(api.Node{Kind: -1}), of(api.Node{Kind: api.Null, Text: "~"}), of(boolean("True")), of(boolean("")), of(number("05")), of(number("")), of(number("9223372036854775808")), of(str("\xff")), of(api.Node{Kind: api.Seq, Text: "a"}), of(api.Node{Kind: api.Map, Text: "a"}),
		// Kids.
		of(api.Node{Kind: api.Str, Kids: []int{0}}), of(api.Node{Kind: api.Null, Kids: []int{1}}, a), of(seq(1)), of(seq(-1)), of(seq(math.MaxInt)), of(seq(math.MinInt)), of(dict(1), a), of(dict(1, 2, 3), a, a, b), of(dict(1, 2), a), of(dict(2, 1), a),
		// Keys.
		of(dict(1, 2), seq(), a), of(dict(1, 2), dict(), a), of(dict(0, 1), a), of(dict(1, 2, 3, 2), a, b, a), of(dict(1, 1), a), of(dict(1, 2, 3, 1), a, a, b), of(seq(1, 2), dict(2, 3), a, b), rooted(1, dict(1, 2), a, b), of(seq(1, 2), dict(3, 4), dict(3, 4), a, b),
	} {
		checkRefused(t, wrong, api.ErrArg, 0, api.ErrArg)
		if e := agree(t, wrong); e != api.ErrArg {
			t.Fatalf("%s: %v", shown(wrong), e)
		}
	}
	// So are nodes that are not reached.
	for _, wrong := range []api.Graph{of(a, api.Node{}), of(a, seq(2)), of(a, str("\xff")), of(a, dict(2), b), of(a, dict(0, 2), b), of(seq(1), a, dict(1, 3), b), of(append(longRow(64), a, seq(-1))...)} {
		checkRefused(t, wrong, api.ErrArg, 0, api.ErrArg)
	}
	// It is told ahead of all else.
	checkRefused(t, of(append(longRow(65), seq(-1))...), api.ErrArg, 0, api.ErrArg)
	checkRefused(t, of(seq(make([]int, 5000)...), api.Node{}), api.ErrArg, 0, api.ErrArg)
	checkRefused(t, of(append(longRow(65), seq(make([]int, 5000)...), number("05"))...), api.ErrArg, 0, api.ErrArg)
}

// longRow are so many Seqs, each with the next one in it, the last one without Kids.
func longRow(count int) []api.Node {
	return append(openRow(count-1), seq())
}

// openRow are so many Seqs, each with the next place in it, that of the last one being the place behind them.
func openRow(count int) []api.Node {
	var nodes []api.Node
	for i := range count {
		nodes = append(nodes, seq(i+1))
	}
	return nodes
}

// circle are so many Seqs, each with the next one in it, the last one with the first one.
func circle(count int) api.Graph {
	return of(append(openRow(count-1), seq(0))...)
}

// mapRow are so many Maps within one another, the last one without entries.
func mapRow(count int) api.Graph {
	var g api.Graph
	for i := range count - 1 {
		g.Nodes = append(g.Nodes, dict(2*i+1, 2*i+2), str("k"))
	}
	return of(append(g.Nodes, dict())...)
}

// deepText is what is written of Seqs within one another, around a text.
func deepText(count int, within string) string {
	return strings.Repeat("[", count) + within + strings.Repeat("]", count)
}

func TestDepth(t *testing.T) {
	a := str("a")
	for deep := 60; deep <= 64; deep++ {
		checkTree(t, of(longRow(deep)...), deepText(deep, ""))
		checkSize(t, of(longRow(deep)...), deep)
		checkTree(t, circle(deep), "&a1 "+deepText(deep, "*a1"))
		checkSize(t, circle(deep), deep+1)
		checkTree(t, mapRow(deep), strings.Repeat("{k: ", deep-1)+"{}"+strings.Repeat("}", deep-1))
		checkSize(t, mapRow(deep), 2*deep-1)
	}
	// Scalars and Aliases within the deepest Seq lie no deeper.
	checkTree(t, of(append(openRow(63), seq(64, 64), a)...), deepText(64, "&a1 a, *a1"))
	checkTree(t, of(append(openRow(63), seq(0, 63, 1))...), "&a1 [&a2 ["+deepText(61, "&a3 [*a1, *a3, *a2]")+"]]")
	checkTree(t, of(append(openRow(63), dict(64, 0), a)...), "&a1 "+deepText(63, "{a: *a1}"))
	// What lies beside one another lies no deeper, either.
	checkTree(t, of(append(openRow(62), seq(63, 64, 65), seq(), dict(), seq())...), deepText(63, "[], {}, []"))
	for _, count := range []int{65, 66, 100, 1000} {
		checkRefused(t, of(longRow(count)...), api.ErrDeep, count, api.OK)
		checkRefused(t, circle(count), api.ErrDeep, count+1, api.OK)
		checkRefused(t, mapRow(count), api.ErrDeep, 2*count-1, api.OK)
		agree(t, circle(count))
	}
	for _, last := range [][]api.Node{{seq()}, {dict()}, {seq(65), a}, {dict(65, 66), a, a}} {
		g := of(append(openRow(64), last...)...)
		checkRefused(t, g, api.ErrDeep, 64+len(last), api.OK)
		// Whatever stands ahead of it, and behind it.
		g.Nodes[0] = seq(len(g.Nodes), 1, 0, len(g.Nodes))
		g.Nodes = append(g.Nodes, a)
		checkRefused(t, g, api.ErrDeep, 64+len(last)+3, api.OK)
		agree(t, g)
	}
}

// rowBeside is a Seq of these, of which 1 is a node, and 2 as many Seqs within one another, the last one of which has that node.
func rowBeside(count int, n api.Node, kids ...int) api.Graph {
	nodes := []api.Node{seq(kids...), n}
	for i := range count - 1 {
		nodes = append(nodes, seq(3+i))
	}
	return of(append(nodes, seq(1))...)
}

func TestDepthIsThatOfTheFirstTime(t *testing.T) {
	for _, n := range []api.Node{seq(), dict(), seq(0), seq(1, 1)} {
		checkRefused(t, rowBeside(63, n, 2, 1), api.ErrDeep, 66+len(n.Kids), api.OK)
		checkRefused(t, rowBeside(63, n, 2), api.ErrDeep, 65+len(n.Kids), api.OK)
		for _, g := range []api.Graph{rowBeside(63, n, 1, 2), rowBeside(62, n, 2, 1), rowBeside(63, str("a"), 2, 1)} {
			if e := agree(t, g); e != api.OK {
				t.Fatalf("%s: %v", shown(g), e)
			}
			checkSize(t, g, len(g.Nodes)+1+len(g.Nodes[1].Kids))
		}
	}
	checkTree(t, rowBeside(63, seq(), 1, 2), "[&a1 [], "+deepText(63, "*a1")+"]")
	checkTree(t, rowBeside(62, seq(), 2, 1), "["+deepText(62, "&a1 []")+", *a1]")
	checkTree(t, rowBeside(63, null, 2, 1), "["+deepText(63, "&a1 null")+", *a1]")
	// A row that is gone to from its end on.
	back := of(append(openRow(64), seq(0))...)
	back.Root = 64
	checkRefused(t, back, api.ErrDeep, 66, api.OK)
	back.Nodes[64] = seq(63, 62, 0)
	checkTree(t, back, "&a1 [&a2 [*a1], &a3 [*a2], "+deepText(62, "*a3")+"]")
}

// fan is a Seq of the places from the first one to the last one.
func fan(first, last int) api.Node {
	n := seq()
	for at := first; at <= last; at++ {
		n.Kids = append(n.Kids, at)
	}
	return n
}

// allOfAll are so many Seqs, each of which has all of them.
func allOfAll(count int) api.Graph {
	return of(slices.Repeat([]api.Node{fan(0, count-1)}, count)...)
}

// keyed is a Map of so many entries, all of which have one value.
func keyed(count int) api.Graph {
	g := of(dict(), seq())
	for i := range count {
		g.Nodes[0].Kids = append(g.Nodes[0].Kids, len(g.Nodes), 1)
		g.Nodes = append(g.Nodes, number(strconv.Itoa(i)))
	}
	return g
}

func TestHowManyTrees(t *testing.T) {
	five := number("5")
	fives := func(count int) []api.Node { return slices.Repeat([]api.Node{five}, count) }
	for _, x := range []struct {
		g    api.Graph
		size int
	}{
		// Nodes alone, and such that are Aliases, too.
		{of(append([]api.Node{fan(1, 4094)}, fives(4094)...)...), 4095}, {of(append([]api.Node{fan(1, 4095)}, fives(4095)...)...), 4096}, {of(append([]api.Node{fan(0, 4094)}, fives(4094)...)...), 4096}, {of(append([]api.Node{fan(0, 4095)}, fives(4095)...)...), 4097},
		// Aliases alone.
		{of(seq(make([]int, 4095)...)), 4096}, {of(seq(make([]int, 4096)...)), 4097}, {of(seq(slices.Repeat([]int{1}, 4095)...), five), 4096}, {of(seq(slices.Repeat([]int{1}, 4096)...), five), 4097}, {of(seq(make([]int, 1<<20)...)), 1<<20 + 1},
		// Within others.
		{of(fan(1, 2), seq(make([]int, 2046)...), seq(make([]int, 2047)...)), 4096}, {of(fan(1, 2), seq(make([]int, 2047)...), seq(make([]int, 2047)...)), 4097}, {of(append(openRow(63), seq(make([]int, 4032)...))...), 4096}, {of(append(openRow(63), seq(make([]int, 4033)...))...), 4097},
		// Keys are trees.
		{keyed(2047), 4095}, {keyed(2048), 4097}, {keyed(4094), 8189},
		{allOfAll(63), 3970}, {allOfAll(64), 4097},
		// What is not reached is none.
		{of(append(fives(4095), fan(0, 4094))...), 1}, {of(five, allOfAll(2).Nodes[0], seq(make([]int, 5000)...)), 1}, {of(append([]api.Node{fan(1, 4094), seq(make([]int, 4095)...)}, fives(4094)...)...), 1 + 4094 + 4095},
	} {
		if x.size <= 4096 {
			checkSize(t, x.g, x.size)
		} else {
			checkRefused(t, x.g, api.ErrMany, x.size, api.OK)
		}
		if len(x.g.Nodes[0].Kids) < 10000 {
			agree(t, x.g)
		}
	}
}

func TestTooDeepIsToldAheadOfTooMany(t *testing.T) {
	many := seq(make([]int, 4096)...)
	for _, x := range []struct {
		g    api.Graph
		size int
	}{
		{allOfAll(65), 65*65 + 1}, {allOfAll(4096), 1<<24 + 1}, {of(longRow(4096)...), 4096}, {circle(4096), 4097},
		{of(append(openRow(64), many)...), 64 + 4097}, {of(append(append([]api.Node{seq(slices.Repeat([]int{1}, 5000)...)}, openRow(64)[1:]...), seq())...), 64 + 1 + 4999},
		{of(append(append([]api.Node{fan(1, 2), many}, openRow(66)[2:]...), seq())...), 64 + 3 + 4096},
		{of(append(append([]api.Node{seq(2, 1), many}, openRow(66)[2:]...), seq())...), 64 + 3 + 4096},
	} {
		checkRefused(t, x.g, api.ErrDeep, x.size, api.OK)
	}
	// One Seq less, and it is too many alone.
	checkRefused(t, of(append(openRow(63), many)...), api.ErrMany, 63+4097, api.OK)
	checkRefused(t, of(append(append([]api.Node{seq(2, 1), many}, openRow(64)[2:]...), seq())...), api.ErrMany, 62+3+4096, api.OK)
}

func TestWhatIsNotReachedIsNotTooDeep(t *testing.T) {
	row := append(openRow(100), seq(101), str("a"), seq(0, 99))
	for _, root := range []int{101, 100, 99, 102 - 64, 101 - 64} {
		if e := agree(t, rooted(root, row...)); e != api.OK {
			t.Fatalf("%d: %v", root, e)
		}
	}
	checkTree(t, rooted(101-64, row...), deepText(64, "a"))
	checkRefused(t, rooted(101-65, row...), api.ErrDeep, 66, api.OK)
	checkRefused(t, rooted(0, row...), api.ErrDeep, 102, api.OK)
	checkRefused(t, rooted(102, row...), api.ErrDeep, 104, api.OK)
}

// allTwice is a Seq of itself and so many others, and then of these again, as order tells.
func allTwice(count int, order func(i int) int) (api.Graph, string) {
	g := of(fan(0, count))
	written := "&a1 [*a1"
	for i := range count {
		g.Nodes = append(g.Nodes, number(strconv.Itoa(i)))
		written += fmt.Sprintf(", &a%d %d", i+2, i)
	}
	for i := range count {
		g.Nodes[0].Kids = append(g.Nodes[0].Kids, order(i)+1)
		written += fmt.Sprintf(", *a%d", order(i)+2)
	}
	return g, written + "]"
}

func TestNumbers(t *testing.T) {
	for _, count := range []int{1, 8, 9, 10, 11, 98, 99, 100, 998, 999, 1000, 2047} {
		for _, order := range []func(int) int{func(i int) int { return i }, func(i int) int { return count - 1 - i }} {
			g, want := allTwice(count, order)
			checkTree(t, g, want)
		}
	}
	// Within one another.
	g := circle(12)
	want := "*a1"
	for i := 11; i >= 0; i-- {
		g.Nodes[i].Kids = append(g.Nodes[i].Kids, i)
		want = fmt.Sprintf("&a%d [%s, *a%d]", i+1, want, i+1)
	}
	checkTree(t, g, want)
}

func TestSmallGraphs(t *testing.T) {
	const places = 3
	kinds := []api.Node{null, number("5"), str("a"), seq(), dict()}
	for first := range places {
		kinds = append(kinds, seq(first))
		for second := range places {
			kinds = append(kinds, seq(first, second), dict(first, second))
		}
	}
	count := map[api.Errno]int{}
	for nodes := 1; nodes <= places; nodes++ {
		for _, g := range smallGraphs(nodes, nodes, kinds) {
			count[agree(t, g)]++
		}
	}
	if count[api.OK] < 5000 || count[api.ErrArg] < 5000 || len(count) != 2 {
		t.Error(count)
	}
	// With one more, but fewer kinds.
	kinds = []api.Node{str("a")}
	for first := range places + 1 {
		kinds = append(kinds, seq(first))
		for second := range places + 1 {
			kinds = append(kinds, seq(first, second))
		}
	}
	for _, g := range smallGraphs(places+1, 1, kinds) {
		if e := agree(t, g); e != api.OK {
			t.Fatalf("%v: %v", g, e)
		}
	}
}

func TestDrawnGraphs(t *testing.T) {
	draw := rand.New(rand.NewSource(1))
	count := map[api.Errno]int{}
	for n := range 30000 {
		g := drawnGraph(draw, 1+n%24)
		if e := agree(t, g); e != api.OK {
			t.Fatalf("%s: %v", shown(g), e)
		}
		got, _ := lay.Tree(g)
		for _, other := range []api.Graph{moved(draw, g), surrounded(draw, g)} {
			if again, e := lay.Tree(other); !sameTree(got, again) || e != api.OK {
				t.Fatalf("Tree(%s): %s, but Tree(%s): %s, %v", shown(g), text(got), shown(other), text(again), e)
			}
		}
		count[agree(t, turned(draw, g))]++
	}
	if count[api.OK] < 3000 || count[api.ErrArg] < 3000 {
		t.Error(count)
	}
}

func TestDrawnRows(t *testing.T) {
	draw := rand.New(rand.NewSource(2))
	count := map[api.Errno]int{}
	for n := range 3000 {
		count[agree(t, drawnRow(draw, 60+n%15))]++
	}
	if count[api.OK] < 500 || count[api.ErrDeep] < 500 {
		t.Error(count)
	}
}

func TestDrawnCrowds(t *testing.T) {
	draw := rand.New(rand.NewSource(3))
	for n := range 60 {
		size := 4090 + n%12
		g := drawnCrowd(draw, size)
		if got, e := lay.Size(g); got != size || e != api.OK {
			t.Fatalf("Size(%s): %d, %v, not %d", shown(g), got, e, size)
		}
		if e := agree(t, g); (e == api.OK) != (size <= 4096) || e != api.OK && e != api.ErrMany {
			t.Fatalf("%d trees: %v", size, e)
		}
	}
}

// P14.3

// checkComposed asks that a graph's tree may be, and is composed to its Canon.
func checkComposed(t *testing.T, g api.Graph, got api.Tree) {
	t.Helper()
	canon, e := graph.Canon(g)
	back, e2 := graph.Compose(got)
	if !flow.Right(got) || !graph.Same(back, canon) || e != api.OK || e2 != api.OK {
		t.Fatalf("Tree(%s): %s, composed %s (%v), but Canon is %s (%v)", shown(g), text(got), shown(back), e2, shown(canon), e)
	}
	if is, e := iso.Iso(g, back); !is || e != api.OK {
		t.Fatalf("Tree(%s): %s, composed %s, is another one", shown(g), text(got), shown(back))
	}
}

func TestATreeIsComposedToItsCanon(t *testing.T) {
	ring, _ := allTwice(2047, func(i int) int { return i })
	for _, g := range []api.Graph{of(seq(0, 1), number("5")), of(longRow(64)...), circle(64), mapRow(64), allOfAll(63), keyed(2047), ring, rooted(2, str("a"), seq(1, 3), dict(0, 1, 4, 3), null, number("5"))} {
		got, e := lay.Tree(g)
		if e != api.OK {
			t.Fatalf("Tree(%s): %v", shown(g), e)
		}
		checkComposed(t, g, got)
		// What is written of it is read as it.
		s, e := flow.Write(got)
		if len(s) > api.MaxText || e != api.OK {
			t.Fatalf("%d bytes, %v", len(s), e)
		}
		if again, f := flow.Whole(s); !sameTree(again, got) || f != (api.Fault{}) {
			t.Fatalf("%s: %s, %v", shown(s), text(again), f)
		}
	}
}

// P14.5

// checkAnchors asks that just what is shared has an Anchor, and each Anchor an Alias.
func checkAnchors(t *testing.T, g api.Graph, got api.Tree) {
	t.Helper()
	shared, e := iso.Shared(g)
	if e != api.OK {
		t.Fatalf("Shared(%s): %v", shown(g), e)
	}
	anchors, aliases := map[string]int{}, map[string]int{}
	for _, v := range values(&got) {
		switch {
		case v.Kind == api.Alias:
			aliases[v.Anchor]++
		case v.Anchor != "":
			anchors[v.Anchor]++
		}
	}
	if len(anchors) != len(shared) || len(aliases) != len(shared) {
		t.Fatalf("Tree(%s): %s, but %d are shared", shown(g), text(got), len(shared))
	}
	for i := range shared {
		if name := "a" + strconv.Itoa(i+1); anchors[name] != 1 || aliases[name] == 0 {
			t.Fatalf("Tree(%s): %s has %d of %s, and %d Aliases", shown(g), text(got), anchors[name], name, aliases[name])
		}
	}
}

func TestWhatIsNotSharedHasNoAnchor(t *testing.T) {
	draw := rand.New(rand.NewSource(4))
	full := 0
	for n := range 20000 {
		next := bare(drawnTree(draw, n%7, "a"))
		if slices.ContainsFunc(values(&next), func(v *api.Tree) bool { return v.Kind == api.Alias }) {
			continue
		}
		g, e := graph.Compose(next)
		if e != api.OK {
			continue
		}
		full++
		g = surrounded(draw, g)
		if got, e := lay.Tree(g); !sameTree(got, next) || e != api.OK {
			t.Fatalf("Tree(%s): %s, %v, not %s", shown(g), text(got), e, text(next))
		}
		if size, e := lay.Size(g); size != len(values(&next)) || e != api.OK {
			t.Fatalf("Size(%s): %d, %v, not that of %s", shown(g), size, e, text(next))
		}
	}
	if full < 3000 {
		t.Errorf("only %d", full)
	}
}
