package graph_test

import (
	"math/rand"
	"slices"
	"strings"
	"testing"

	"grommet/api"
	"grommet/flow"
	"grommet/graph"
)

func tree(kind int, text string, kids ...api.Tree) api.Tree {
	return api.Tree{Kind: kind, Text: text, Kids: kids}
}

func alias(name string) api.Tree { return api.Tree{Kind: api.Alias, Anchor: name} }

func anchored(name string, t api.Tree) api.Tree {
	t.Anchor = name
	return t
}

// nested are Seqs within one another.
func nested(count int) api.Tree {
	t := tree(api.Seq, "")
	for range count - 1 {
		t = tree(api.Seq, "", t)
	}
	return t
}

// P12.2

func TestExample(t *testing.T) {
	checkCompose(t, "&a [*a]", of(seq(0)))
}

func TestCompose(t *testing.T) {
	a, b, c, five := str("a"), str("b"), str("c"), number("5")
	for _, x := range []struct {
		text string
		want api.Graph
	}{
		{"~", of(null)}, {"", of(null)}, {"true", of(boolean("true"))}, {"-5", of(number("-5"))}, {"'5'", of(str("5"))}, {"a", of(a)}, {"''", of(str(""))}, {"[]", of(seq())}, {"{}", of(dict())},
		// An Anchor alone is nothing.
		{"&a 5", of(five)}, {"&a []", of(seq())}, {"[&a a, &b b, &a 5]", of(seq(1, 2, 3), a, b, five)},
		{"[a, 5, ~]", of(seq(1, 2, 3), a, five, null)}, {"{a: b, 5: ~}", of(dict(1, 2, 3, 4), a, b, five, null)},
		// A value is ahead of its Kids, and these of the next value.
		{"[[a, [b]], 5]", of(seq(1, 5), seq(2, 3), a, seq(4), b, five)},
		{"{a: [{b: 5}], c: {}}", of(dict(1, 2, 6, 7), a, seq(3), dict(4, 5), b, five, c, dict())},
		// What is like another value is another one.
		{"[a, a, [], []]", of(seq(1, 2, 3, 4), a, a, seq(), seq())}, {"{a: a}", of(dict(1, 2), a, a)},
	} {
		checkCompose(t, x.text, x.want)
	}
}

func TestAliases(t *testing.T) {
	a, b, five := str("a"), str("b"), number("5")
	for _, x := range []struct {
		text string
		want api.Graph
	}{
		// Ahead of it.
		{"[&x a, *x]", of(seq(1, 1), a)}, {"[&x a, *x, b, *x]", of(seq(1, 1, 2, 1), a, b)}, {"[&x [a], [*x]]", of(seq(1, 3), seq(2), a, seq(1))}, {"[[&x a], *x]", of(seq(1, 2), seq(2), a)}, {"{a: &x 5, b: *x}", of(dict(1, 2, 3, 2), a, five, b)}, {"[{a: &x 5}, *x]", of(seq(1, 3), dict(2, 3), a, five)}, {"[&x ~, *x]", of(seq(1, 1), null)}, {"[&x {}, &y [], *y, *x]", of(seq(1, 2, 2, 1), dict(), seq())},
		// Around it.
		{"&x [*x]", of(seq(0))}, {"&x [*x, *x]", of(seq(0, 0))}, {"&x {a: *x}", of(dict(1, 0), a)}, {"&x [[[*x]]]", of(seq(1), seq(2), seq(0))}, {"[&x [*x], *x]", of(seq(1, 1), seq(1))}, {"&x [&y {a: [*x, *y]}, *y]", of(seq(1, 1), dict(2, 3), a, seq(0, 1))},
		// The last one that has the name, which may be around or not.
		{"[&x a, &x b, *x]", of(seq(1, 2, 2), a, b)}, {"[&x a, *x, &x b, *x]", of(seq(1, 1, 2, 2), a, b)}, {"[&x a, [&x b], *x]", of(seq(1, 2, 3), a, seq(3), b)}, {"&x [&x [*x], *x]", of(seq(1, 1), seq(1))}, {"&x [*x, &x a, *x]", of(seq(0, 1, 1), a)}, {"&x [&x a, [*x]]", of(seq(1, 2), a, seq(1))}, {"[&x a, &x [*x]]", of(seq(1, 2), a, seq(2))}, {"{a: &x 5, b: &x {a: *x}}", of(dict(1, 2, 3, 4), a, five, b, dict(5, 4), a)},
		// Names are told apart byte by byte.
		{"[&x a, &X b, *x, *X]", of(seq(1, 2, 1, 2), a, b)}, {"[&x a, &xx b, &x- 5, *x-, *xx, *x]", of(seq(1, 2, 3, 3, 2, 1), a, b, five)}, {"[&5 a, &05 b, *5, *05]", of(seq(1, 2, 1, 2), a, b)},
		// A name is no key.
		{"{a: &a 5, b: *a}", of(dict(1, 2, 3, 2), a, five, b)},
	} {
		checkCompose(t, x.text, x.want)
	}
}

func TestNamesThatNoneHas(t *testing.T) {
	for _, text := range []string{
		// Alone.
		"*a", "*x-1",
		"[*a]", "{a: *a}", "[a, *a]", "{a: a, b: *a}", "[[[*a]]]",
		// Behind it, which also is not there yet.
		"[*a, &a 5]", "[*a, *a]", "[[*a], &a 5]", "[*a, &a [*a]]", "{a: *x, b: &x 5}", "[[*a, &a 5]]",
		// Others have another one.
		"[&b a, *a]", "&b [*a]", "[&aa a, *a]", "[&a a, *aa]", "[&A a, *a]", "[&a1 a, &a2 a, *a3]", "&a [*a, *b]",
		// Within a key's Map that is refused later.
		"{a: *x, a: 5}", "[*x, {a: 5, a: 5}]", "{b: {c: *x}, b: 5}",
	} {
		checkComposeError(t, written(t, text), api.ErrName)
	}
	// An Alias has its name itself, but is no value that others mean.
	checkComposeError(t, tree(api.Seq, "", alias("a"), alias("a")), api.ErrName)
}

func TestKeysThatAreThere(t *testing.T) {
	for _, text := range []string{
		"{a: 5, a: 5}", "{a: 5, a: 6}", "{a: 5, b: 5, a: 5}", "{b: 5, a: 5, a: 5}", "{5: a, 5: b}", "{~: a, null: b}", "{true: a, true: b}", "{'5': a, \"5\": b}", "{a: 5, 'a': 5}", "{'': 5, \"\": 5}", "{\"\\u20ac\": 5, \"\u20ac\": 5}",
		"[{a: 5, a: 5}]", "{b: {a: 5, a: 5}}", "{a: {a: 5, a: 5}}", "[5, [{b: 5}, {c: 5, c: 5}]]", "{a: {b: 5}, c: 5, a: 5}", "{a: [], a: []}",
		// Ahead of a name that none has.
		"{a: 5, a: *x}", "[{a: 5, a: 5}, *x]", "{a: 5, a: [[*x]]}", "{b: {a: 5, a: 5}, c: *x}", "{a: &x 5, a: *y}",
	} {
		checkComposeError(t, written(t, text), api.ErrThere)
	}
	// Keys of one text and other kinds, or in other Maps, are other ones.
	for _, text := range []string{
		"{5: a, '5': b}", "{true: a, 'true': b, false: c, 'false': ~}", "{~: a, '': b, 'null': c, '~': 5}", "{a: 5, A: 5, 'a ': 5, ' a': 5}", "{a: {a: {a: 5}}}", "[{a: 5}, {a: 5}]", "{a: a, b: a}", "{a: {b: 5}, b: {a: 5}}", "{0: a, -1: b, 1: c, 10: ~}", "[a, a, 5, 5]",
	} {
		if e := agreeCompose(t, written(t, text)); e != api.OK {
			t.Errorf("%q: %v", text, e)
		}
	}
}

func TestTheFirstErrorIsTold(t *testing.T) {
	for _, c := range []struct {
		text string
		why  api.Errno
	}{
		{"[*x, {a: 5, a: 5}]", api.ErrName}, {"[{a: 5, a: 5}, *x]", api.ErrThere},
		{"{a: *x, a: 5}", api.ErrName}, {"{a: 5, a: *x}", api.ErrThere},
		{"{a: {b: 5, b: 5}, a: *x}", api.ErrThere}, {"{a: {b: *x, b: 5}, a: 5}", api.ErrName}, {"{a: {b: 5}, a: *x, c: *y}", api.ErrThere},
		{"{a: [5, [*x]], a: 5}", api.ErrName}, {"{a: 5, b: [{c: 5, c: 5}], d: *x}", api.ErrThere}, {"{a: 5, b: [{c: *x, c: 5}], a: 5}", api.ErrName},
		{"[[{a: 5}, *x], {b: 5, b: 5}]", api.ErrName}, {"[[{a: 5, a: 5}], *x]", api.ErrThere},
	} {
		checkComposeError(t, written(t, c.text), c.why)
	}
}

func TestTreesThatMayNotBe(t *testing.T) {
	a, list := tree(api.Str, "a"), tree(api.Seq, "")
	for _, wrong := range []api.Tree{
		{}, {Kind: -1}, {Kind: 8}, alias(""), alias("a b"), alias(strings.Repeat("a", 33)), anchored("a.b", a), anchored(strings.Repeat("a", 33), list),
		tree(api.Null, "~"), tree(api.Bool, "yes"), tree(api.Int, "05"), tree(api.Str, "\xff"), tree(api.Seq, "a"), tree(api.Map, "a"), {Kind: api.Alias, Anchor: "a", Text: "a"},
		tree(api.Null, "", a), tree(api.Str, "a", a), {Kind: api.Alias, Anchor: "a", Kids: []api.Tree{a}},
		tree(api.Map, "", a), tree(api.Map, "", a, a, a), tree(api.Map, "", list, a), tree(api.Map, "", tree(api.Map, ""), a), tree(api.Map, "", anchored("a", a), a), anchored("x", tree(api.Map, "", alias("x"), a)),
		nested(65), nested(66),
		tree(api.Seq, "", slices.Repeat([]api.Tree{a}, 4096)...), tree(api.Seq, "", slices.Repeat([]api.Tree{list}, 5000)...),
	} {
		checkComposeError(t, wrong, api.ErrArg)
		checkComposeError(t, tree(api.Seq, "", wrong), api.ErrArg)
		// It is told ahead of what stands ahead of it.
		checkComposeError(t, tree(api.Seq, "", alias("x"), wrong), api.ErrArg)
		checkComposeError(t, tree(api.Seq, "", tree(api.Map, "", a, a, a, a), wrong), api.ErrArg)
		checkComposeError(t, tree(api.Map, "", a, a, a, wrong), api.ErrArg)
	}
	// A list that has itself in it is a tree without an end.
	endless := []api.Tree{list}
	endless[0].Kids = endless
	if got, e := graph.Compose(endless[0]); len(got.Nodes) != 0 || e != api.ErrArg {
		t.Error(len(got.Nodes), e)
	}
}

func TestGreatTrees(t *testing.T) {
	for _, deep := range []int{1, 2, 63, 64} {
		if got, e := graph.Compose(nested(deep)); !sameGraph(got, longRow(deep)) || e != api.OK {
			t.Errorf("%d Seqs: %s, %v", deep, shown(got), e)
		}
	}
	// As many trees as there may be: all of them values, or all but one Aliases of the Root.
	five := tree(api.Int, "5")
	if got, e := graph.Compose(tree(api.Seq, "", slices.Repeat([]api.Tree{five}, 4095)...)); len(got.Nodes) != 4096 || !graph.Right(got) || got.Nodes[0].Kids[4094] != 4095 || e != api.OK {
		t.Errorf("%d nodes, %v", len(got.Nodes), e)
	}
	if got, e := graph.Compose(anchored("a", tree(api.Seq, "", slices.Repeat([]api.Tree{alias("a")}, 4095)...))); !sameGraph(got, of(seq(make([]int, 4095)...))) || e != api.OK {
		t.Errorf("%d nodes, %v", len(got.Nodes), e)
	}
	// The last one of many is refused.
	checkComposeError(t, tree(api.Seq, "", append(slices.Repeat([]api.Tree{anchored("b", five)}, 4094), alias("a"))...), api.ErrName)
	checkComposeError(t, tree(api.Seq, "", append(slices.Repeat([]api.Tree{five}, 4095), alias("a"))...), api.ErrArg)
	long := tree(api.Str, strings.Repeat("a", api.MaxText))
	if got, e := graph.Compose(tree(api.Map, "", long, long)); !sameGraph(got, of(dict(1, 2), str(long.Text), str(long.Text))) || e != api.OK {
		t.Errorf("%d nodes, %v", len(got.Nodes), e)
	}
	checkComposeError(t, tree(api.Map, "", long, long, long, long), api.ErrThere)
}

// smallLists are all lists of Kids that have so many values in all; trees are by how many they have. An entry has a key more.
func smallLists(trees [][]api.Tree, size int, isMap bool) [][]api.Tree {
	if size == 0 {
		return [][]api.Tree{nil}
	}
	var all [][]api.Tree
	for first := 1; first <= size; first++ {
		left, keys := size-first, [][]api.Tree{nil}
		if isMap {
			left, keys = left-1, [][]api.Tree{{tree(api.Str, "5")}, {tree(api.Int, "5")}}
		}
		if left < 0 {
			continue
		}
		for _, behind := range smallLists(trees, left, isMap) {
			for _, kid := range trees[first] {
				for _, key := range keys {
					all = append(all, slices.Concat(key, []api.Tree{kid}, behind))
				}
			}
		}
	}
	return all
}

// smallTrees are all trees of up to so many values, by how many they have, with one name and two keys.
func smallTrees(most int) [][]api.Tree {
	trees := [][]api.Tree{nil, {alias("x"), tree(api.Null, ""), anchored("x", tree(api.Null, ""))}}
	for size := 1; size <= most; size++ {
		if size == len(trees) {
			trees = append(trees, nil)
		}
		for kind := api.Seq; kind <= api.Map; kind++ {
			for _, kids := range smallLists(trees, size-1, kind == api.Map) {
				next := tree(kind, "", kids...)
				trees[size] = append(trees[size], next, anchored("x", next))
			}
		}
	}
	return trees
}

func TestSmallTrees(t *testing.T) {
	count := map[api.Errno]int{}
	for _, list := range smallTrees(6) {
		for _, next := range list {
			count[agreeCompose(t, next)]++
			checkComposed(t, next)
		}
	}
	for _, why := range []api.Errno{api.OK, api.ErrName, api.ErrThere} {
		if count[why] < 500 {
			t.Errorf("only %d of %v", count[why], why)
		}
	}
	if count[api.ErrArg] > 0 {
		t.Errorf("%d may not be", count[api.ErrArg])
	}
}

func TestDrawnTrees(t *testing.T) {
	draw := rand.New(rand.NewSource(7))
	count := map[api.Errno]int{}
	for n := range 40000 {
		next := drawnTree(draw, n%6, "a", "b", "A")
		if n%5 == 0 {
			next = spoilt(draw, next)
		}
		count[agreeCompose(t, next)]++
		checkComposed(t, next)
	}
	for _, why := range []api.Errno{api.OK, api.ErrArg, api.ErrName, api.ErrThere} {
		if count[why] < 1000 {
			t.Errorf("only %d of %v", count[why], why)
		}
	}
}

// P12.3

// checkComposed asks that what is composed may be, and is its own Canon.
func checkComposed(t *testing.T, next api.Tree) {
	t.Helper()
	g, e := graph.Compose(next)
	if e != api.OK {
		return
	}
	if !graph.Right(g) {
		t.Fatalf("Compose(%s): %s may not be", shown(next), shown(g))
	}
	if got, e := graph.Canon(g); !sameGraph(got, g) || !graph.Same(got, g) || e != api.OK {
		t.Fatalf("Compose(%s): %s, but its Canon is %s, %v", shown(next), shown(g), shown(got), e)
	}
}

func TestWhatIsComposedMayBe(t *testing.T) {
	for _, text := range []string{"&a [*a]", "[&a {b: *a, c: [*a, &a 5]}, *a]", "{a: &x [], b: &x {a: *x}, c: *x}", "[[], [[]], &a [[*a]]]"} {
		checkComposed(t, written(t, text))
	}
	for _, deep := range []int{1, 64} {
		checkComposed(t, nested(deep))
	}
	checkComposed(t, tree(api.Seq, "", slices.Repeat([]api.Tree{tree(api.Null, "")}, 4095)...))
}

// P12.4

func TestCanonOfCanon(t *testing.T) {
	draw := rand.New(rand.NewSource(8))
	for n := range 10000 {
		g := drawnGraph(draw, 1+n%20)
		once, e := graph.Canon(g)
		if e != api.OK || !graph.Right(once) {
			t.Fatalf("Canon(%v): %v, %v", g, once, e)
		}
		if twice, e := graph.Canon(once); !sameGraph(once, twice) || e != api.OK {
			t.Fatalf("Canon(%v): %v, and of that %v, %v", g, once, twice, e)
		}
		order, _ := graph.Order(once)
		for i, at := range order {
			if i != at || len(order) != len(once.Nodes) {
				t.Fatalf("Order(%v): %v", once, order)
			}
		}
		deep, _ := graph.Depth(g)
		checkDepth(t, once, deep)
		for at := range g.Nodes {
			sub, e := graph.Sub(g, at)
			if e != api.OK {
				continue
			}
			if again, e := graph.Canon(sub); !sameGraph(sub, again) || e != api.OK {
				t.Fatalf("Sub(%v, %d): %v, but its Canon is %v, %v", g, at, sub, again, e)
			}
		}
	}
}

// P12.5

func TestWithoutAliasesAGraphIsItsTree(t *testing.T) {
	draw := rand.New(rand.NewSource(9))
	full := 0
	for n := range 20000 {
		next := drawnTree(draw, n%7)
		if n%2 == 0 {
			// Anchors that nobody asks for turn nothing.
			next = withAnchors(draw, next)
		}
		g, e := graph.Compose(next)
		if e == api.ErrThere {
			continue
		}
		if e != api.OK {
			t.Fatalf("Compose(%s): %v", shown(next), e)
		}
		full++
		if got := unfolded(g, g.Root); !flow.Same(got, bare(next)) {
			t.Fatalf("Compose(%s): %s, whose tree is %s", shown(next), shown(g), shown(got))
		}
		// Nothing is shared: each value but the Root is a Kid once.
		times := make([]int, len(g.Nodes))
		times[g.Root]++
		for _, n := range g.Nodes {
			for _, kid := range n.Kids {
				times[kid]++
			}
		}
		if len(g.Nodes) != len(wantValues(next)) || slices.Max(times) != 1 || slices.Min(times) != 1 {
			t.Fatalf("Compose(%s): %s", shown(next), shown(g))
		}
		again, e := graph.Compose(unfolded(g, g.Root))
		if !sameGraph(again, g) || e != api.OK {
			t.Fatalf("Compose(%s): %s, and of its tree %s, %v", shown(next), shown(g), shown(again), e)
		}
	}
	if full < 5000 {
		t.Errorf("only %d are composed", full)
	}
}

// withAnchors is a tree of which some values have one, but no key.
func withAnchors(draw *rand.Rand, t api.Tree) api.Tree {
	t.Anchor = one(draw, "", "a", "b")
	t.Kids = slices.Clone(t.Kids)
	for i := range t.Kids {
		if t.Kind == api.Seq || i%2 == 1 {
			t.Kids[i] = withAnchors(draw, t.Kids[i])
		}
	}
	return t
}

// The rules that hold everywhere

// spoil writes into all lists of a graph, and behind their ends.
func spoil(g api.Graph) {
	for _, n := range g.Nodes {
		spoilNode(n)
	}
	all := g.Nodes[:cap(g.Nodes)]
	for i := range all {
		all[i] = api.Node{Kind: 99}
	}
}

func spoilNode(n api.Node) {
	all := n.Kids[:cap(n.Kids)]
	for k := range all {
		all[k] = -99
	}
}

func TestAnswersAreTheCallersOwn(t *testing.T) {
	draw := rand.New(rand.NewSource(10))
	for n := range 2000 {
		g := drawnGraph(draw, 1+n%12)
		kept := copied(g)
		next := drawnTree(draw, 3, "a")
		text, _ := flow.Write(next)
		for _, ask := range []func() api.Graph{
			func() api.Graph { c, _ := graph.Canon(g); return c },
			func() api.Graph { s, _ := graph.Sub(g, n%len(g.Nodes)); return s },
			func() api.Graph { c, _ := graph.Compose(next); return c },
			func() api.Graph { s, _ := graph.Scalar(api.Int, "5"); return s },
		} {
			want := ask()
			// Writing into one node's Kids turns no other's.
			for i := range want.Nodes {
				got := ask()
				spoilNode(got.Nodes[i])
				for k := range got.Nodes {
					if k != i && !sameNode(got.Nodes[k], want.Nodes[k]) {
						t.Fatalf("node %d shares what node %d has: %v", i, k, got)
					}
				}
			}
			spoil(ask())
			if got := ask(); !sameGraph(got, want) {
				t.Fatalf("%v, and then %v", want, got)
			}
		}
		order, _ := graph.Order(g)
		for i := range order {
			order[i] = -99
		}
		if !sameGraph(g, kept) {
			t.Fatalf("%v was written into: %v", kept, g)
		}
		if again, _ := flow.Write(next); again != text {
			t.Fatalf("%s was written into: %s", text, again)
		}
		if again, _ := graph.Order(g); !slices.Equal(again, wantOrder(g)) {
			t.Fatalf("Order(%v): %v", g, again)
		}
	}
}

func TestNothingHandedInIsKept(t *testing.T) {
	g := rooted(2, str("a"), seq(1, 3), dict(0, 1, 4, 3), null, number("5"))
	want := of(dict(1, 2, 4, 3), str("a"), seq(2, 3), null, number("5"))
	canon, _ := graph.Canon(g)
	sub, _ := graph.Sub(g, 2)
	order, _ := graph.Order(g)
	spoil(g)
	if !sameGraph(canon, want) || !sameGraph(sub, want) || !slices.Equal(order, []int{2, 0, 1, 3, 4}) {
		t.Error(canon, sub, order)
	}
	next := written(t, "&a {b: [*a, 5]}")
	c, _ := graph.Compose(next)
	next.Kids[1].Kids[0] = tree(api.Null, "")
	next.Kids[0].Text = "c"
	if !sameGraph(c, of(dict(1, 2), str("b"), seq(0, 3), number("5"))) {
		t.Error(c)
	}
}

func TestListsThatAreNilOrEmpty(t *testing.T) {
	full := of(api.Node{Kind: api.Seq, Kids: []int{}}, api.Node{Kind: api.Str, Kids: []int{}}, api.Node{Kind: api.Map, Kids: make([]int, 0, 4)})
	checkRight(t, full, true)
	for at := range full.Nodes {
		checkSub(t, full, at, of(api.Node{Kind: full.Nodes[at].Kind}))
	}
	if got, e := graph.Compose(api.Tree{Kind: api.Null, Kids: []api.Tree{}}); !sameGraph(got, of(null)) || e != api.OK {
		t.Error(got, e)
	}
}
