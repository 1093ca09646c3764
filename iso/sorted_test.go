package iso_test

import (
	"math"
	"math/rand"
	"reflect"
	"slices"
	"strconv"
	"strings"
	"testing"

	"grommet/api"
	"grommet/graph"
	"grommet/iso"
)

// P13.2: Sorted

// checkSorted asks for a graph's Sorted, which may be, is its own Canon and its own Sorted.
func checkSorted(t *testing.T, g, want api.Graph) {
	t.Helper()
	got, e := iso.Sorted(g)
	if !graph.Same(got, want) || e != api.OK {
		t.Fatalf("Sorted(%s): %s, %v, not %s", shown(g), shown(got), e, shown(want))
	}
	if !graph.Right(got) {
		t.Fatalf("Sorted(%s): %s may not be", shown(g), shown(got))
	}
	if canon, e := graph.Canon(got); !graph.Same(canon, got) || e != api.OK {
		t.Fatalf("Sorted(%s): %s, but its Canon is %s, %v", shown(g), shown(got), shown(canon), e)
	}
	if again, e := iso.Sorted(got); !graph.Same(again, got) || e != api.OK {
		t.Fatalf("Sorted(%s): %s, and of that %s, %v", shown(g), shown(got), shown(again), e)
	}
	if is, e := iso.Like(g, got); !is || e != api.OK {
		t.Fatalf("Sorted(%s): %s is not like it: %v, %v", shown(g), shown(got), is, e)
	}
}

func checkSortedText(t *testing.T, text, want string) {
	t.Helper()
	checkSorted(t, composed(t, text), composed(t, want))
	if got := wantSorted(composed(t, text)); !graph.Same(got, composed(t, want)) {
		t.Fatalf("wantSorted of %s: %v", text, got)
	}
}

func TestSorted(t *testing.T) {
	for text, want := range map[string]string{
		"~": "~", "5": "5", "[]": "[]", "{}": "{}", "[b, a]": "[b, a]", "{a: 5}": "{a: 5}", "{a: 5, b: 6}": "{a: 5, b: 6}",
		"{b: 5, a: 6}": "{a: 6, b: 5}", "{c: 1, a: 2, b: 3}": "{a: 2, b: 3, c: 1}", "{c: 1, b: 2, a: 3}": "{a: 3, b: 2, c: 1}",
		// All Maps, also within others, and in lists.
		"{b: {d: 1, c: 2}, a: [{f: 3, e: 4}]}": "{a: [{e: 4, f: 3}], b: {c: 2, d: 1}}", "[{b: 1, a: 2}, {a: 3, b: 4}]": "[{a: 2, b: 1}, {a: 3, b: 4}]", "[[[{b: {b: ~, a: ~}, a: ~}]]]": "[[[{a: ~, b: {a: ~, b: ~}}]]]",
		// Kinds ahead of texts.
		"{a: 1, 5: 2, true: 3, ~: 4}": "{~: 4, true: 3, 5: 2, a: 1}", "{'5': 1, 5: 2}": "{5: 2, '5': 1}", "{'': 1, ~: 2}": "{~: 2, '': 1}", "{'': 1, 9: 2}": "{9: 2, '': 1}", "{0: 1, true: 2}": "{true: 2, 0: 1}", "{'!': 1, 5: 2, '-': 3, false: 4, '5': 5, true: 6, 'false': 7}": "{false: 4, true: 6, 5: 2, '!': 1, '-': 3, '5': 5, 'false': 7}",
		// Texts byte by byte, also those of numbers.
		"{10: 1, 9: 2, 0: 3, -5: 4, -10: 5, 1: 6, 100: 7}": "{-10: 5, -5: 4, 0: 3, 1: 6, 10: 1, 100: 7, 9: 2}", "{b: 1, B: 2, a: 3, A: 4}": "{A: 4, B: 2, a: 3, b: 1}", "{ab: 1, aa: 2, a: 3, '': 4, b: 5}": "{'': 4, a: 3, aa: 2, ab: 1, b: 5}", "{a10: 1, a9: 2, a1: 3}": "{a1: 3, a10: 1, a9: 2}", "{true: 1, false: 2}": "{false: 2, true: 1}",
		"{\"\U00010000\": 1, \"\ufffd\": 2, \"\ue000\": 3, \"\u20ac\": 4, \"\u00e9\": 5, z: 6, \"\\x00\": 7, \"\\x7f\": 8}": "{\"\\x00\": 7, z: 6, \"\\x7f\": 8, \"\u00e9\": 5, \"\u20ac\": 4, \"\ue000\": 3, \"\ufffd\": 2, \"\U00010000\": 1}", "{\"a\\x00\": 1, a: 2, \"a b\": 3}": "{a: 2, \"a\\x00\": 1, \"a b\": 3}",
		// Values are not looked at.
		"{b: a, a: b}": "{a: b, b: a}", "{c: [], b: {}, a: ~}": "{a: ~, b: {}, c: []}",
		// Within a circle.
		"&x {b: *x, a: 5}": "&x {a: 5, b: *x}", "&x {b: *x, a: *x}": "&x {a: *x, b: *x}", "&x {b: {d: *x, c: 1}, a: [*x]}": "&x {a: [*x], b: {c: 1, d: *x}}", "[&x {b: [*x], a: {b: *x, a: ~}}, *x]": "[&x {a: {a: ~, b: *x}, b: [*x]}, *x]",
		// A value that is shared is met first by another entry.
		"{b: &x [5], a: *x}": "{a: &x [5], b: *x}", "{b: &x [5], a: [*x]}": "{a: [&x [5]], b: *x}", "{b: [&x [5], 6], a: [7, *x]}": "{a: [7, &x [5]], b: [*x, 6]}", "{c: &x {b: &y 5, a: *y}, b: *y, a: [*x]}": "{a: [&x {a: &y 5, b: *y}], b: *y, c: *x}", "&x {b: &y {d: *x, c: *y}, a: *y}": "&x {a: &y {c: *y, d: *x}, b: *y}",
	} {
		checkSortedText(t, text, want)
		checkSortedText(t, "[0, "+text+"]", "[0, "+want+"]")
		checkSortedText(t, "{l: "+text+", k: 0}", "{k: 0, l: "+want+"}")
	}
}

func TestSortedPlaces(t *testing.T) {
	a, b, five := str("a"), str("b"), number("5")
	// What comes first lies first.
	checkSorted(t, of(dict(1, 2, 3, 4), b, null, a, five), of(dict(1, 2, 3, 4), a, five, b, null))
	checkSorted(t, of(dict(1, 2, 3, 4), a, five, b, null), of(dict(1, 2, 3, 4), a, five, b, null))
	checkSorted(t, rooted(3, a, b, five, dict(1, 3, 0, 2)), of(dict(1, 2, 3, 0), a, five, b))
	checkSorted(t, of(dict(1, 2, 4, 5), b, seq(3), five, a, seq(3, 2)), of(dict(1, 2, 5, 4), a, seq(3, 4), five, seq(3), b))
	checkSorted(t, of(seq(1), dict(2, 0, 3, 1), b, a), of(seq(1), dict(2, 1, 3, 0), a, b))
	// What is not reached goes.
	checkSorted(t, rooted(2, a, dict(0, 2), five), of(five))
	checkSorted(t, of(dict(1, 0), a, dict(3, 0, 4, 0), b, a), of(dict(1, 0), a))
	// The same value of many keys.
	checkSorted(t, of(dict(1, 4, 2, 4, 3, 4), b, a, five, null), of(dict(1, 2, 3, 2, 4, 2), five, null, a, b))
}

func TestSortedOfGreatGraphs(t *testing.T) {
	// All of one Map: keys from 9 to 0 by their texts, texts behind numbers.
	g := wideMap(4094, true)
	var keys []string
	for _, at := range g.Nodes[0].Kids {
		if n := g.Nodes[at]; n.Kind != api.Null {
			keys = append(keys, strconv.Itoa(n.Kind)+n.Text)
		}
	}
	slices.Sort(keys)
	want := of(dict())
	for i, key := range keys {
		want.Nodes[0].Kids = append(want.Nodes[0].Kids, len(want.Nodes), 2)
		want.Nodes = append(want.Nodes, api.Node{Kind: int(key[0] - '0'), Text: key[1:]})
		if i == 0 {
			want.Nodes = append(want.Nodes, null)
		}
	}
	if len(want.Nodes) != 4096 {
		t.Fatal(len(want.Nodes))
	}
	checkSorted(t, g, want)
	checkSorted(t, wideMap(4094, false), want)
	// Maps within one another, each with itself behind the next one: 1365 of three nodes, and an empty one.
	var deep, sorted api.Graph
	for i := range 1365 {
		deep.Nodes = append(deep.Nodes, dict(3*i+1, 3*i+3, 3*i+2, 3*i), str("b"), str("a"))
	}
	deep.Nodes = append(deep.Nodes, dict())
	sorted.Nodes = make([]api.Node, 4096)
	for i := range 1365 {
		sorted.Nodes[3*i] = dict(3*i+1, 3*i, 3*i+2, 3*i+3)
		sorted.Nodes[3*i+1], sorted.Nodes[3*i+2] = str("a"), str("b")
	}
	sorted.Nodes[4095] = dict()
	checkSorted(t, deep, sorted)
	checkSorted(t, circle(4096), circle(4096))
	checkSorted(t, of(slices.Repeat([]api.Node{null}, 4096)...), of(null))
	long := strings.Repeat("a", api.MaxText)
	checkSorted(t, of(dict(1, 2, 3, 4), str(long+"b"), null, str(long), null), of(dict(1, 2, 3, 4), str(long), null, str(long+"b"), null))
}

func TestSortedOfDrawnGraphs(t *testing.T) {
	draw := rand.New(rand.NewSource(8))
	turns := 0
	for n := range 20000 {
		g := drawnGraph(draw, 1+n%12)
		want := wantSorted(g)
		checkSorted(t, g, want)
		checkSorted(t, mixed(draw, g), want)
		checkSorted(t, surrounded(draw, mixed(draw, g)), want)
		if canon, _ := graph.Canon(g); !graph.Same(canon, want) {
			turns++
		}
	}
	if turns < 2000 {
		t.Errorf("only %d did not rise", turns)
	}
	for range 10 {
		g := drawnGraph(draw, 900)
		checkSorted(t, g, wantSorted(g))
	}
}

func TestSortedKeysRise(t *testing.T) {
	draw := rand.New(rand.NewSource(9))
	for n := range 5000 {
		g, _ := iso.Sorted(drawnGraph(draw, 1+n%12))
		for _, n := range g.Nodes {
			for k := 2; n.Kind == api.Map && k < len(n.Kids); k += 2 {
				x, y := g.Nodes[n.Kids[k-2]], g.Nodes[n.Kids[k]]
				if x.Kind > y.Kind || x.Kind == y.Kind && x.Text >= y.Text {
					t.Fatalf("%v: %v is ahead of %v", g, x, y)
				}
			}
		}
	}
}

// P13.2: Shared

func checkShared(t *testing.T, g api.Graph, want ...int) {
	t.Helper()
	if got, e := iso.Shared(g); !slices.Equal(got, want) || e != api.OK {
		t.Fatalf("Shared(%s): %s, %v, not %s", shown(g), shown(got), e, shown(want))
	}
	if len(g.Nodes) < 999 && !slices.Equal(wantShared(g), want) {
		t.Fatalf("wantShared(%s): %v", shown(g), wantShared(g))
	}
}

func TestShared(t *testing.T) {
	a, b := str("a"), str("b")
	// None.
	checkShared(t, of(null))
	checkShared(t, of(seq()))
	checkShared(t, of(seq(1, 2), a, a))
	checkShared(t, of(dict(1, 2, 3, 4), a, a, b, seq(5), a))
	// The Root that is a Kid, too.
	checkShared(t, of(seq(0)), 0)
	checkShared(t, of(seq(0, 0)), 0)
	checkShared(t, of(dict(1, 0), a), 0)
	checkShared(t, rooted(1, a, seq(2), seq(1, 0)), 1)
	checkShared(t, rooted(1, seq(1), seq(0)), 1)
	// A node that is twice a Kid of one node, or of several.
	checkShared(t, of(seq(1, 1), a), 1)
	checkShared(t, of(seq(1, 2, 1), a, b), 1)
	checkShared(t, of(dict(1, 3, 2, 3), a, b, null), 3)
	checkShared(t, of(seq(1, 2), seq(2), a), 2)
	checkShared(t, of(seq(1, 2), seq(3), seq(3), a), 3)
	checkShared(t, of(seq(1, 3), a, b, dict(2, 1)), 1)
	checkShared(t, of(seq(1), seq(1)), 1)
	// Each once, however often it is shared.
	checkShared(t, of(seq(0, 0, 1, 1, 1), seq(1, 0)), 0, 1)
	// In order, which is not that of the places, nor that in which they come again.
	checkShared(t, of(seq(2, 1, 1, 2), a, b), 2, 1)
	checkShared(t, of(seq(3, 2, 1, 1, 2, 3), a, a, a), 3, 2, 1)
	checkShared(t, rooted(4, a, seq(0), b, seq(1, 2), seq(3, 2, 0, 1)), 1, 0, 2)
	checkShared(t, rooted(2, seq(2, 0), a, seq(0, 1, 1)), 2, 0, 1)
	// A second time a Kid of one that is not reached.
	checkShared(t, of(seq(1), a, seq(1)))
	checkShared(t, of(seq(1), a, seq(1, 1, 0, 2)))
	checkShared(t, of(a, seq(0, 0)))
	checkShared(t, rooted(1, seq(0, 2), seq(2), a))
	checkShared(t, of(seq(1, 1), a, seq(0, 3, 3), b), 1)
	// Not all of what is not reached is told.
	checkShared(t, of(a, seq(1), seq(3, 3), b))
}

func TestSharedOfTexts(t *testing.T) {
	for text, want := range map[string][]int{
		"&a [*a]": {0}, "[&a x, *a]": {1}, "[x, x]": nil, "[&a [&b y, *b], *a]": {1, 2}, "[[&b y], &a [*b], *a]": {2, 3}, "&a {k: &b [*a], l: *b}": {0, 2}, "{k: &b [x], l: {m: *b}}": {2}, "[&a x]": nil,
	} {
		checkShared(t, composed(t, text), want...)
	}
}

func TestSharedOfGreatGraphs(t *testing.T) {
	checkShared(t, circle(4096), 0)
	checkShared(t, ladder(4095, false), func() []int {
		var all []int
		for i := range 4095 {
			all = append(all, i+1)
		}
		return all
	}()...)
	checkShared(t, wideMap(4094, true), 1)
	checkShared(t, of(seq(make([]int, 1<<20)...)), 0)
	row := circle(4096)
	row.Nodes[4095] = seq()
	checkShared(t, row)
}

func TestSharedOfDrawnGraphs(t *testing.T) {
	draw := rand.New(rand.NewSource(10))
	none, some, many := 0, 0, 0
	for n := range 20000 {
		g := drawnGraph(draw, 1+n%12)
		want := wantShared(g)
		checkShared(t, g, want...)
		switch {
		case len(want) == 0:
			none++
		case len(want) == 1:
			some++
		default:
			many++
		}
		// Just as many of what is like are shared, and what is not reached does not matter.
		other := surrounded(draw, mixed(draw, g))
		if got, e := iso.Shared(other); len(got) != len(want) || e != api.OK {
			t.Fatalf("Shared(%v): %v, %v", other, got, e)
		}
	}
	if none < 1000 || some < 1000 || many < 1000 {
		t.Error(none, some, many)
	}
	for _, g := range smallGraphs(3) {
		checkShared(t, g, wantShared(g)...)
	}
}

// P13.2: Find

func checkFind(t *testing.T, g api.Graph, at, kind int, text string, want int, isThere bool) {
	t.Helper()
	if got, ok := iso.Find(g, at, kind, text); got != want || ok != isThere {
		t.Fatalf("Find(%s, %d, %d, %.99q): %d, %v, not %d, %v", shown(g), at, kind, text, got, ok, want, isThere)
	}
	if got, ok := wantFind(g, at, kind, text); got != want || ok != isThere {
		t.Fatalf("wantFind(%s, %d, %d, %.99q): %d, %v", shown(g), at, kind, text, got, ok)
	}
}

func TestFind(t *testing.T) {
	// 0 {a: 5, 5: 0, '5': 6, ~: 7}, 5 x, 6 [a, x], 7 {a: 5}, 10 {b: 0}, which is not reached.
	g := of(dict(1, 5, 2, 0, 3, 6, 4, 7), str("a"), number("5"), str("5"), null, str("x"), seq(9, 5), dict(8, 5), str("a"), str("a"), dict(11, 0), str("b"))
	checkFind(t, g, 0, api.Str, "a", 5, true)
	checkFind(t, g, 0, api.Null, "", 7, true)
	// Of a key of this Text and another Kind.
	checkFind(t, g, 0, api.Int, "5", 0, true)
	checkFind(t, g, 0, api.Str, "5", 6, true)
	checkFind(t, g, 0, api.Bool, "5", 0, false)
	checkFind(t, g, 0, api.Str, "", 0, false)
	checkFind(t, g, 0, api.Int, "a", 0, false)
	checkFind(t, g, 7, api.Str, "a", 5, true)
	checkFind(t, g, 7, api.Int, "5", 0, false)
	checkFind(t, g, 7, api.Null, "", 0, false)
	// A value is no key, and a text is that as a whole.
	checkFind(t, g, 0, api.Str, "x", 0, false)
	for _, text := range []string{"A", "aa", " a", "a ", "\xff", "05", "~", "null"} {
		checkFind(t, g, 0, api.Str, text, 0, false)
	}
	// Not reached, but a Map that has it.
	checkFind(t, g, 10, api.Str, "b", 0, true)
	checkFind(t, g, 10, api.Str, "a", 0, false)
	for _, at := range []int{math.MinInt, -12, -1, 12, 13, 4096, math.MaxInt} {
		checkFind(t, g, at, api.Str, "a", 0, false)
	}
	// At scalars, and at a Seq that has it as a Kid.
	for _, at := range []int{1, 2, 3, 4, 5, 6, 8, 9, 11} {
		checkFind(t, g, at, api.Str, "a", 0, false)
		checkFind(t, g, at, api.Str, "x", 0, false)
		checkFind(t, g, at, api.Null, "", 0, false)
	}
	for _, kind := range []int{math.MinInt, -1, 0, api.Seq, api.Map, api.Alias, 8, 260, math.MaxInt} {
		checkFind(t, g, 0, kind, "a", 0, false)
		checkFind(t, g, 0, kind, "", 0, false)
	}
	// The Root does not matter.
	for _, root := range []int{5, 6, 7, 9, 10} {
		checkFind(t, rooted(root, g.Nodes...), 0, api.Str, "a", 5, true)
		checkFind(t, rooted(root, g.Nodes...), 7, api.Str, "a", 5, true)
	}
	checkFind(t, of(dict()), 0, api.Null, "", 0, false)
	checkFind(t, of(null), 0, api.Null, "", 0, false)
	// A key whose value is shared, or itself around it, or like the key.
	checkFind(t, of(dict(1, 3, 2, 3), str("a"), str("b"), seq(3)), 0, api.Str, "a", 3, true)
	checkFind(t, of(dict(1, 3, 2, 3), str("a"), str("b"), seq(3)), 0, api.Str, "b", 3, true)
	checkFind(t, of(seq(1), dict(2, 1), str("a")), 1, api.Str, "a", 1, true)
	checkFind(t, of(dict(1, 2), str("a"), str("a")), 0, api.Str, "a", 2, true)
}

func TestFindInWideMaps(t *testing.T) {
	g := wideMap(4094, true)
	for i := range 4094 {
		if i%97 != 0 && i != 4093 {
			continue
		}
		checkFind(t, g, 0, api.Int, strconv.Itoa(i), onlyPlace(i < 2047), i < 2047)
		checkFind(t, g, 0, api.Str, strconv.Itoa(i), onlyPlace(i >= 2047), i >= 2047)
	}
	checkFind(t, g, 0, api.Str, "4094", 0, false)
	long := strings.Repeat("a", api.MaxText)
	checkFind(t, of(dict(1, 2), str(long), null), 0, api.Str, long, 2, true)
	checkFind(t, of(dict(1, 2), str(long), null), 0, api.Str, long[1:], 0, false)
}

// onlyPlace is that of a wide Map's only value, if it is there.
func onlyPlace(isThere bool) int {
	if isThere {
		return 1
	}
	return 0
}

func TestFindInDrawnGraphs(t *testing.T) {
	draw := rand.New(rand.NewSource(11))
	there, not, wrong := 0, 0, 0
	for n := range 20000 {
		g := drawnGraph(draw, 1+n%8)
		if n%4 == 0 {
			g = turned(draw, g)
		}
		for at := -1; at <= len(g.Nodes); at++ {
			key := drawnScalar(draw)
			want, isThere := wantFind(g, at, key.Kind, key.Text)
			checkFind(t, g, at, key.Kind, key.Text, want, isThere)
			switch {
			case !graph.Right(g):
				wrong++
			case isThere:
				there++
			default:
				not++
			}
		}
	}
	if there < 1000 || not < 1000 || wrong < 1000 {
		t.Error(there, not, wrong)
	}
}

func TestEachEntryIsFound(t *testing.T) {
	draw := rand.New(rand.NewSource(12))
	for n := range 5000 {
		g := drawnGraph(draw, 1+n%10)
		for at, n := range g.Nodes {
			for k := 0; n.Kind == api.Map && k < len(n.Kids); k += 2 {
				key := g.Nodes[n.Kids[k]]
				checkFind(t, g, at, key.Kind, key.Text, n.Kids[k+1], true)
			}
		}
	}
}

// The rules that hold everywhere

func TestNothingIsToldOfGraphsThatMayNotBe(t *testing.T) {
	for _, g := range refused() {
		if got, e := iso.Sorted(g); !reflect.DeepEqual(got, api.Graph{}) || e != api.ErrArg {
			t.Errorf("Sorted(%s): %s, %v", shown(g), shown(got), e)
		}
		if got, e := iso.Shared(g); got != nil || e != api.ErrArg {
			t.Errorf("Shared(%s): %s, %v", shown(g), shown(got), e)
		}
		for _, at := range []int{g.Root, 0, 1, -1, len(g.Nodes), math.MinInt, math.MaxInt} {
			for _, key := range []api.Node{str("a"), null, number("5"), {}, str("\xff")} {
				if got, ok := iso.Find(g, at, key.Kind, key.Text); got != 0 || ok {
					t.Errorf("Find(%s, %d, %v): %d, %v", shown(g), at, key, got, ok)
				}
			}
		}
	}
	// Also where the Map itself has the key, and nothing else is wrong with it.
	a := str("a")
	for _, g := range []api.Graph{of(dict(1, 2), a, null, seq(9)), rooted(7, dict(1, 2), a, null), rooted(1, dict(1, 2), a, null), of(dict(1, 2), a, null, str("\xff")), of(dict(1, 2, 3, 2), a, null, a)} {
		if got, ok := iso.Find(g, 0, api.Str, "a"); got != 0 || ok {
			t.Errorf("Find(%v, 0, a): %d, %v", g, got, ok)
		}
	}
}

// spoil writes into all lists of a graph, and behind their ends.
func spoil(g api.Graph) {
	for _, n := range g.Nodes {
		spoilNode(n)
	}
	all := g.Nodes[:cap(g.Nodes)]
	for i := range all {
		all[i] = api.Node{Kind: 99}
	}
}

func spoilNode(n api.Node) {
	all := n.Kids[:cap(n.Kids)]
	for k := range all {
		all[k] = -99
	}
}

func TestAnswersAreTheCallersOwn(t *testing.T) {
	draw := rand.New(rand.NewSource(13))
	for n := range 2000 {
		g := drawnGraph(draw, 1+n%10)
		kept, other := copied(g), mixed(draw, g)
		keptOther := copied(other)
		want, _ := iso.Sorted(g)
		want = copied(want)
		// Writing into one node's Kids turns no other's.
		for i := range want.Nodes {
			got, _ := iso.Sorted(g)
			spoilNode(got.Nodes[i])
			got.Nodes[i] = want.Nodes[i]
			if !graph.Same(got, want) {
				t.Fatalf("node %d shares what another one has: %v", i, got)
			}
		}
		got, _ := iso.Sorted(g)
		spoil(got)
		shared, _ := iso.Shared(g)
		shared = shared[:cap(shared)]
		for i := range shared {
			shared[i] = -99
		}
		asked(t, g, other)
		iso.Find(g, 0, api.Str, "a")
		if !graph.Same(g, kept) || !graph.Same(other, keptOther) {
			t.Fatalf("%v, %v were written into: %v, %v", kept, keptOther, g, other)
		}
		if again, _ := iso.Sorted(g); !graph.Same(again, want) {
			t.Fatalf("Sorted(%v): %v, and then %v", g, want, again)
		}
		if again, _ := iso.Shared(g); !slices.Equal(again, wantShared(g)) {
			t.Fatalf("Shared(%v): %v", g, again)
		}
	}
}

func TestNothingHandedInIsKept(t *testing.T) {
	g := rooted(2, str("b"), seq(1, 3), dict(0, 1, 4, 3), null, str("a"))
	sorted, _ := iso.Sorted(g)
	shared, _ := iso.Shared(g)
	spoil(g)
	if !graph.Same(sorted, of(dict(1, 2, 3, 4), str("a"), null, str("b"), seq(4, 2))) || !slices.Equal(shared, []int{1, 3}) {
		t.Error(sorted, shared)
	}
}

func TestListsThatAreNilOrEmpty(t *testing.T) {
	for _, n := range []api.Node{null, str("a"), seq(), dict()} {
		full := n
		full.Kids = make([]int, 0, 4)
		check(t, of(n), of(full), same)
		checkSorted(t, of(full), of(n))
		checkShared(t, of(full))
		checkFind(t, of(full), 0, api.Str, "a", 0, false)
	}
}
