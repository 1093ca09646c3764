package path_test

import (
	"math"
	"math/rand"
	"slices"
	"strconv"
	"strings"
	"testing"

	"grommet/api"
	"grommet/flow"
	"grommet/graph"
	"grommet/path"
)

var null = api.Node{Kind: api.Null}

func boolean(text string) api.Node { return api.Node{Kind: api.Bool, Text: text} }
func number(text string) api.Node  { return api.Node{Kind: api.Int, Text: text} }
func str(text string) api.Node     { return api.Node{Kind: api.Str, Text: text} }
func seq(kids ...int) api.Node     { return api.Node{Kind: api.Seq, Kids: kids} }
func dict(kids ...int) api.Node    { return api.Node{Kind: api.Map, Kids: kids} }

// of is a graph whose Root is the first node.
func of(nodes ...api.Node) api.Graph { return api.Graph{Nodes: nodes} }

func rooted(root int, nodes ...api.Node) api.Graph { return api.Graph{Nodes: nodes, Root: root} }

// composed is the graph of a text of one line.
func composed(t *testing.T, text string) api.Graph {
	t.Helper()
	next, f := flow.Whole(text)
	g, e := graph.Compose(next)
	if f != (api.Fault{}) || e != api.OK {
		t.Fatalf("%q: %v, %v", text, f, e)
	}
	return g
}

// agreeGet holds Get against the words written a second time, and asks what follows; it tells the error.
func agreeGet(t *testing.T, g api.Graph, l []path.Step) api.Errno {
	t.Helper()
	want, why := wantGet(g, l)
	got, e := path.Get(g, l)
	if got != want || e != why {
		t.Fatalf("Get(%s, %s): %d, %v, not %d, %v", shown(g), shown(l), got, e, want, why)
	}
	checkGoesOn(t, g, l)
	return e
}

// checkGet asks for a place.
func checkGet(t *testing.T, g api.Graph, l []path.Step, want int) {
	t.Helper()
	if got, e := path.Get(g, l); got != want || e != api.OK {
		t.Fatalf("Get(%s, %s): %d, %v, not %d", shown(g), shown(l), got, e, want)
	}
	agreeGet(t, g, l)
}

// checkNone asks for Get's error.
func checkNone(t *testing.T, g api.Graph, l []path.Step, why api.Errno) {
	t.Helper()
	if got, e := path.Get(g, l); got != 0 || e != why {
		t.Fatalf("Get(%s, %s): %d, %v, not %v", shown(g), shown(l), got, e, why)
	}
	agreeGet(t, g, l)
}

// parsed is a text's path.
func parsed(t *testing.T, s string) []path.Step {
	t.Helper()
	l, f := path.Parse(s)
	if f != (api.Fault{}) {
		t.Fatalf("Parse(%q): %v", s, f)
	}
	return l
}

// P16.3

func TestGet(t *testing.T) {
	// 0 {a: [1, {b: c}], "x y": [], 5: n, "5": s, ~: z, "": e, true: y}
	g := composed(t, `{a: [1, {b: c}], "x y": [], 5: n, "5": s, ~: z, "": e, true: y}`)
	for s, want := range map[string]string{
		"a[0]": "1", "a[1].b": "c", `"5"`: "s", "5": "s", `""`: "e",
	} {
		at, e := path.Get(g, parsed(t, s))
		if got := g.Nodes[at].Text; got != want || e != api.OK {
			t.Errorf("Get of %s: %q, %v, not %q", s, got, e, want)
		}
		checkGet(t, g, parsed(t, s), at)
	}
	for s, want := range map[string]int{"": 0, "a": 2, "a[0]": 3, "a[1]": 4, "a[1].b": 6, `"x y"`: 8} {
		checkGet(t, g, parsed(t, s), want)
	}
	// A key where no Map is, and an index where no Seq is.
	for _, s := range []string{"[0]", "[999999]", "a.b", `a.""`, "a.0", `"x y".a`, "a[0][0]", "a[0].b", `a[0].""`, "a[1][0]", "a[1].b.c", "a[1].b[0]", "5.a", "5[0]", `"".a`, "[0].a", "[0][0]", "a.b.c[0]"} {
		checkNone(t, g, parsed(t, s), api.ErrKind)
	}
	// None there.
	for _, s := range []string{"b", "A", "aa", "c", "x", `"x y "`, `" x y"`, "null", "true", `"~"`, "05", "a[2]", "a[999999]", "a[1].c", `a[1].""`, `"x y"[0]`, `"x y"[1].a`, "b.a[0]", "b[0]", "a[2].b", `"\u00e9"`} {
		checkNone(t, g, parsed(t, s), api.ErrNone)
	}
}

func TestExampleOfTheWhole(t *testing.T) {
	g := composed(t, "{a: [{b: c}]}")
	if at, e := path.Get(g, parsed(t, "a[0].b")); g.Nodes[at].Text != "c" || e != api.OK {
		t.Fatal(at, e)
	}
}

func TestGetOfNoStep(t *testing.T) {
	for _, n := range []api.Node{null, boolean("true"), number("5"), str("a"), str(""), seq(), dict(), seq(0), seq(1)} {
		g := rooted(2, n, str("b"), n, n)
		checkGet(t, g, nil, 2)
		checkGet(t, g, []path.Step{}, 2)
		g.Root = 0
		checkGet(t, g, nil, 0)
	}
}

func TestGetOfScalars(t *testing.T) {
	for _, n := range []api.Node{null, boolean("true"), number("5"), str("a"), str(""), str("[0]")} {
		for _, l := range [][]path.Step{way(0), way("a"), way(""), way("5"), way(1), way(999999), way(n.Text), way(0, "a"), way("a", 0)} {
			checkNone(t, of(n), l, api.ErrKind)
			checkNone(t, rooted(1, seq(1), n), l, api.ErrKind)
			checkNone(t, of(seq(1), n), append(way(0), l...), api.ErrKind)
			checkNone(t, of(dict(1, 2), str("k"), n), append(way("k"), l...), api.ErrKind)
		}
	}
}

func TestKeysOfOtherKinds(t *testing.T) {
	for _, other := range []api.Node{null, boolean("true"), boolean("false"), number("0"), number("5"), number("-5")} {
		g := of(dict(1, 2), other, seq())
		checkNone(t, g, way(other.Text), api.ErrNone)
		checkNone(t, g, way("null"), api.ErrNone)
		// The Str of the same Text, ahead of it and behind it.
		g = of(dict(1, 2, 3, 4), other, seq(), str(other.Text), dict())
		checkGet(t, g, way(other.Text), 4)
		g = of(dict(3, 4, 1, 2), other, seq(), str(other.Text), dict())
		checkGet(t, g, way(other.Text), 4)
		checkGet(t, g, []path.Step{{Key: other.Text, Index: 1}}, 4)
	}
	// A value with that Text is no key.
	checkNone(t, of(dict(1, 2), str("a"), str("b")), way("b"), api.ErrNone)
	checkGet(t, of(dict(1, 2), str("a"), str("a")), way("a"), 2)
	checkGet(t, of(dict(1, 2, 3, 4), str("a"), str("b"), str("b"), null), way("b"), 4)
	// Of a Map that is not reached, or another one.
	checkNone(t, of(dict(1, 2), str("a"), null, dict(4, 5), str("b"), null), way("b"), api.ErrNone)
	checkNone(t, of(dict(1, 2), str("a"), dict(3, 4), str("b"), null), way("b"), api.ErrNone)
	checkNone(t, of(dict(1, 2), str("a"), dict(3, 4), str("b"), null), way("a", "a"), api.ErrNone)
	// All keys are texts of layer 1, and stand as they are.
	for _, text := range []string{"", " ", ".", "a.b", "[0]", "\n", "\x00", "\ufeff", "\u00e9", "\U0001f600", strings.Repeat("a", 256), strings.Repeat("\u00e9", 128)} {
		checkGet(t, of(dict(1, 2), str(text), null), way(text), 2)
		checkNone(t, of(dict(1, 2), str(text), null), way("z", text), api.ErrNone)
	}
	// No path leads to a key that is too long.
	more := strings.Repeat("a", 257)
	checkNone(t, of(dict(1, 2), str(more), null), way(more), api.ErrArg)
	checkNone(t, of(dict(1, 2), str(more), null), way(more[1:]), api.ErrNone)
}

func TestIndexesThatAreJustTooGreat(t *testing.T) {
	for _, count := range []int{0, 1, 2, 3, 10, 1000} {
		nodes := []api.Node{seq()}
		for i := range count {
			nodes[0].Kids = append(nodes[0].Kids, count-i)
			nodes = append(nodes, number(strconv.Itoa(i)))
		}
		for i := range count {
			if i < 5 || i > count-5 {
				checkGet(t, of(nodes...), way(i), count-i)
			}
		}
		for _, n := range []int{count, count + 1, 2*count + 1, 999999} {
			checkNone(t, of(nodes...), way(n), api.ErrNone)
		}
	}
	// As many Kids as an index has room for, and more.
	wide := of(seq(make([]int, 1000001)...), null)
	wide.Nodes[0].Kids[999999] = 1
	checkGet(t, wide, way(999999), 1)
	checkGet(t, wide, way(999998), 0)
	checkGet(t, wide, way(999998, 0, 999999), 1)
	checkNone(t, wide, way(1000000), api.ErrArg)
	wide.Nodes[0].Kids = wide.Nodes[0].Kids[:999999]
	checkNone(t, wide, way(999999), api.ErrNone)
}

func TestSharedAndCircles(t *testing.T) {
	// Shared.
	g := composed(t, "{a: &x [5, {b: c}], d: *x, e: [*x]}")
	for _, s := range []string{"a", "d", "e[0]"} {
		checkGet(t, g, parsed(t, s), 2)
		checkGet(t, g, parsed(t, s+"[1].b"), 6)
		checkNone(t, g, parsed(t, s+"[2]"), api.ErrNone)
		checkNone(t, g, parsed(t, s+".b"), api.ErrKind)
	}
	// Within itself.
	g = composed(t, "&x [*x, {k: *x, l: &y {m: *y, n: 5}}]")
	checkGet(t, g, nil, 0)
	checkGet(t, g, parsed(t, "[0]"), 0)
	checkGet(t, g, parsed(t, "[0][0][0]"), 0)
	checkGet(t, g, parsed(t, "[1].k[1].k[0][1].l.m.m"), 4)
	checkGet(t, g, parsed(t, "[1].k[1].k[0][1].l.m.m.n"), 7)
	checkNone(t, g, parsed(t, "[1].k[1].k[0][1].l.m.m.n.n"), api.ErrKind)
	checkNone(t, g, parsed(t, "[1].k[1].k[2]"), api.ErrNone)
	checkNone(t, g, parsed(t, "[0][0].k"), api.ErrKind)
	// As far as a path goes.
	for _, g := range []api.Graph{of(seq(0)), of(seq(1), seq(0)), of(seq(1), seq(2), seq(0))} {
		for count := range 65 {
			checkGet(t, g, slices.Repeat(way(0), count), count%len(g.Nodes))
		}
		checkNone(t, g, slices.Repeat(way(0), 65), api.ErrArg)
		checkNone(t, g, append(slices.Repeat(way(0), 63), index(1)), api.ErrNone)
		checkNone(t, g, append(slices.Repeat(way(0), 63), key("a")), api.ErrKind)
	}
	loop := of(dict(1, 0, 2, 3), str("k"), str("l"), null)
	checkGet(t, loop, slices.Repeat(way("k"), 64), 0)
	checkGet(t, loop, append(slices.Repeat(way("k"), 63), key("l")), 3)
	checkNone(t, loop, append(slices.Repeat(way("k"), 64), key("l")), api.ErrArg)
	// Deeper than a tree may be.
	var row api.Graph
	for i := range 4095 {
		row.Nodes = append(row.Nodes, seq(i+1))
	}
	row.Nodes = append(row.Nodes, null)
	checkGet(t, row, slices.Repeat(way(0), 64), 64)
	row.Root = 4032
	checkGet(t, row, slices.Repeat(way(0), 63), 4095)
	checkNone(t, row, slices.Repeat(way(0), 64), api.ErrKind)
}

// refused are graphs that may not be.
func refused() []api.Graph {
	a, b := str("a"), str("b")
	return []api.Graph{
		{}, {Root: 1}, rooted(1, a), rooted(-1, a), rooted(math.MaxInt, a), rooted(math.MinInt, a), of(slices.Repeat([]api.Node{seq()}, 4097)...),
		of(api.Node{}), of(api.Node{Kind: api.Alias}), of(api.Node{Kind: 8}), of(api.Node{Kind: -1}), of(api.Node{Kind: api.Null, Text: "~"}), of(boolean("True")), of(number("05")), of(str("\xff")), of(api.Node{Kind: api.Seq, Text: "a"}), of(api.Node{Kind: api.Map, Text: "a"}),
		of(api.Node{Kind: api.Str, Kids: []int{0}}), of(seq(1)), of(seq(-1)), of(seq(math.MaxInt)), of(seq(math.MinInt)), of(dict(1), a), of(dict(1, 2, 3), a, a, b), of(dict(1, 2), a), of(dict(2, 1), a),
		of(dict(1, 2), seq(), a), of(dict(1, 2), dict(), a), of(dict(0, 1), a), of(dict(1, 2, 3, 2), a, b, a), of(dict(1, 1), a), of(seq(1, 2), dict(2, 3), a, b), rooted(1, dict(1, 2), a, b), of(seq(1, 2), dict(3, 4), dict(3, 4), a, b),
		// By nodes that are not reached.
		of(a, api.Node{}), of(seq(1), a, seq(4)), of(dict(1, 2), a, b, dict(1, 2)), of(seq(1), a, str("\xff")), of(seq(0), dict(2), a),
	}
}

func TestGetOfGraphsThatMayNotBe(t *testing.T) {
	for _, g := range refused() {
		for _, l := range [][]path.Step{nil, way(0), way("a"), way(0, 0), way("a", "a"), way(-1), way("\xff"), slices.Repeat(way(0), 65)} {
			checkNone(t, g, l, api.ErrArg)
		}
	}
}

func TestGetOfPathsThatMayNotBe(t *testing.T) {
	more := strings.Repeat("a", 257)
	for _, wrong := range [][]path.Step{way(-1), way(1000000), way(math.MaxInt), way(math.MinInt), way(more), way("\xff"), way("a\xc3"), slices.Repeat(way(0), 65), slices.Repeat(way("a"), 65)} {
		for _, g := range []api.Graph{of(seq(0)), of(dict(1, 0), str("a")), of(null), of(dict(1, 2), str(more), null), of(seq()), of(dict())} {
			checkNone(t, g, wrong, api.ErrArg)
			// Also where the way would end ahead of it.
			for _, ahead := range [][]path.Step{way(0), way("a"), way("z"), way(9), way(0, "a")} {
				checkNone(t, g, append(slices.Clone(ahead), wrong...), api.ErrArg)
			}
			checkNone(t, g, append(slices.Clone(wrong), key("a")), api.ErrArg)
		}
	}
	// Fields that do not count don't count here, either.
	g := of(dict(1, 2), str("a"), seq(3), null)
	checkGet(t, g, []path.Step{{Key: "a", Index: -1}, {Key: more, At: true}}, 3)
	checkGet(t, g, []path.Step{{Key: "a", Index: math.MaxInt}, {Key: "\xff", At: true}}, 3)
	checkNone(t, g, []path.Step{{Key: "a", At: true}}, api.ErrKind)
	checkNone(t, g, []path.Step{{Key: "a"}, {Key: "a"}}, api.ErrKind)
}

func TestWideMaps(t *testing.T) {
	g := of(dict(), null)
	for i := range 4094 {
		g.Nodes[0].Kids = append(g.Nodes[0].Kids, len(g.Nodes), i%2)
		g.Nodes = append(g.Nodes, str("k"+strconv.Itoa(i)))
	}
	for _, i := range []int{0, 1, 2, 2000, 2001, 4092, 4093} {
		checkGet(t, g, way("k"+strconv.Itoa(i)), i%2)
		checkGet(t, g, way("k0", "k"+strconv.Itoa(i)), i%2)
		checkNone(t, g, way("k1", "k"+strconv.Itoa(i)), api.ErrKind)
	}
	checkNone(t, g, way("k4094"), api.ErrNone)
	if at, e := path.Get(g, append(slices.Repeat(way("k4092"), 63), key("k4093"))); at != 1 || e != api.OK {
		t.Error(at, e)
	}
}

// ways hands on all paths of up to so many of the steps.
func ways(steps []path.Step, long int, try func([]path.Step)) {
	last := [][]path.Step{nil}
	try(nil)
	for range long {
		var next [][]path.Step
		for _, l := range last {
			for _, step := range steps {
				longer := append(slices.Clone(l), step)
				try(longer)
				next = append(next, longer)
			}
		}
		last = next
	}
}

func TestGetOfSmallGraphs(t *testing.T) {
	count := map[api.Errno]int{}
	a, b := str("a"), str("b")
	kinds := []api.Node{null, a, seq(), seq(0), seq(1), seq(2, 0), seq(1, 2, 1), dict(), dict(3, 0), dict(3, 1, 4, 2), dict(4, 2, 3, 0), dict(5, 1)}
	for _, x := range kinds {
		for _, y := range kinds {
			for _, z := range []api.Node{a, seq(1), dict(6, 0)} {
				g := of(x, y, z, a, b, number("5"), a)
				ways(way(0, 1, "a", "b"), 3, func(l []path.Step) { count[agreeGet(t, g, l)]++ })
				ways(way(2, "5", ""), 2, func(l []path.Step) { count[agreeGet(t, g, l)]++ })
			}
		}
	}
	if count[api.OK] < 1000 || count[api.ErrArg] < 1000 || count[api.ErrKind] < 1000 || count[api.ErrNone] < 1000 {
		t.Error(count)
	}
}

func TestGetOfDrawnGraphs(t *testing.T) {
	draw := rand.New(rand.NewSource(4))
	count := map[api.Errno]int{}
	for n := range 10000 {
		g := drawnGraph(draw, 1+n%12)
		for range 3 {
			l := drawnWay(draw, g, one(draw, 3, 8, 64))
			count[agreeGet(t, g, l)]++
			count[agreeGet(t, g, drawnPath(draw, 2))]++
			if n%4 == 0 {
				count[agreeGet(t, turned(draw, g), l)]++
				count[agreeGet(t, g, spoiltPath(draw, l))]++
			}
		}
	}
	if count[api.OK] < 5000 || count[api.ErrArg] < 1000 || count[api.ErrKind] < 5000 || count[api.ErrNone] < 1000 {
		t.Error(count)
	}
}

func TestEachKidIsGot(t *testing.T) {
	draw := rand.New(rand.NewSource(5))
	for n := range 3000 {
		g := drawnGraph(draw, 1+n%12)
		// By steps, from the Root on, to each node once.
		ways := map[int][]path.Step{g.Root: nil}
		for left := []int{g.Root}; len(left) > 0; left = left[1:] {
			at := left[0]
			checkGet(t, g, ways[at], at)
			for i, kid := range g.Nodes[at].Kids {
				step := index(i)
				if g.Nodes[at].Kind == api.Map {
					k := g.Nodes[g.Nodes[at].Kids[i-i%2]]
					if i%2 == 0 || k.Kind != api.Str {
						continue
					}
					step = key(k.Text)
				}
				if _, ok := ways[kid]; !ok {
					ways[kid] = append(slices.Clone(ways[at]), step)
					left = append(left, kid)
				}
			}
		}
	}
}

// P16.5

// checkGoesOn cuts a path in two anywhere, and goes it in two ways.
func checkGoesOn(t *testing.T, g api.Graph, l []path.Step) {
	t.Helper()
	want, why := path.Get(g, l)
	if why == api.ErrArg {
		return
	}
	for cut := range len(l) + 1 {
		at, e := path.Get(g, l[:cut])
		if e == api.OK {
			at, e = path.Get(api.Graph{Nodes: g.Nodes, Root: at}, l[cut:])
		}
		if at != want || e != why {
			t.Fatalf("Get(%s, %s), cut at %d: %d, %v, not %d, %v", shown(g), shown(l), cut, at, e, want, why)
		}
		if len(g.Nodes) > 999 || len(g.Nodes[g.Root].Kids) > 999 {
			return
		}
	}
}

func TestAPathGoesOn(t *testing.T) {
	g := composed(t, "{a: [1, {b: &x [c, *x]}]}")
	first, then := parsed(t, "a[1]"), parsed(t, "b[1][0]")
	at, e := path.Get(g, first)
	on, e2 := path.Get(api.Graph{Nodes: g.Nodes, Root: at}, then)
	whole, e3 := path.Get(g, append(slices.Clone(first), then...))
	if on != whole || g.Nodes[on].Text != "c" || e != api.OK || e2 != api.OK || e3 != api.OK {
		t.Error(at, on, whole, e, e2, e3)
	}
	// It goes on in what layer 12 tells of the place, too.
	part, e := graph.Sub(g, at)
	in, e2 := path.Get(part, then)
	if part.Nodes[in].Text != "c" || e != api.OK || e2 != api.OK {
		t.Error(part, in, e, e2)
	}
	draw := rand.New(rand.NewSource(6))
	for n := range 2000 {
		g := drawnGraph(draw, 1+n%12)
		l := drawnWay(draw, g, 8)
		cut := draw.Intn(len(l) + 1)
		at, e := path.Get(g, l[:cut])
		if e != api.OK {
			continue
		}
		part, _ := graph.Sub(g, at)
		in, e := path.Get(part, l[cut:])
		to, e2 := path.Get(g, l)
		if e != e2 {
			t.Fatalf("Get(%s, %s): %v, but %v of the part", shown(g), shown(l), e2, e)
		}
		if e == api.OK {
			a, _ := graph.Sub(g, to)
			b, _ := graph.Sub(part, in)
			if !graph.Same(a, b) {
				t.Fatalf("Get(%s, %s): %s, but %s of the part", shown(g), shown(l), shown(a), shown(b))
			}
		}
	}
}
