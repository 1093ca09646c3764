package iso_test

import (
	"fmt"
	"math"
	"math/rand"
	"slices"
	"strconv"
	"strings"
	"testing"

	"grommet/api"
	"grommet/flow"
	"grommet/graph"
	"grommet/iso"
)

var null = api.Node{Kind: api.Null}

func boolean(text string) api.Node { return api.Node{Kind: api.Bool, Text: text} }
func number(text string) api.Node  { return api.Node{Kind: api.Int, Text: text} }
func str(text string) api.Node     { return api.Node{Kind: api.Str, Text: text} }
func seq(kids ...int) api.Node     { return api.Node{Kind: api.Seq, Kids: kids} }
func dict(kids ...int) api.Node    { return api.Node{Kind: api.Map, Kids: kids} }

// of is a graph whose Root is the first node.
func of(nodes ...api.Node) api.Graph { return api.Graph{Nodes: nodes} }

func rooted(root int, nodes ...api.Node) api.Graph { return api.Graph{Nodes: nodes, Root: root} }

// shown is the beginning of what is told of a value.
func shown(v any) string {
	s := fmt.Sprintf("%+v", v)
	return s[:min(len(s), 999)]
}

// composed is the graph that a text means.
func composed(t *testing.T, text string) api.Graph {
	t.Helper()
	tree, f := flow.Whole(text)
	if f != (api.Fault{}) {
		t.Fatalf("%.999q: %v", text, f)
	}
	g, e := graph.Compose(tree)
	if e != api.OK {
		t.Fatalf("%.999q: %v", text, e)
	}
	return g
}

// asked is what two graphs are; all three calls must have one error.
func asked(t *testing.T, a, b api.Graph) (alike, api.Errno) {
	t.Helper()
	equal, e := iso.Equal(a, b)
	like, e2 := iso.Like(a, b)
	same, e3 := iso.Iso(a, b)
	if e != e2 || e != e3 {
		t.Fatalf("%s and %s: %v, %v, %v", shown(a), shown(b), e, e2, e3)
	}
	return alike{equal, like, same}, e
}

// The four that two graphs may be.
var (
	apart = alike{}
	equal = alike{equal: true}
	like  = alike{equal: true, like: true}
	same  = alike{equal: true, like: true, same: true}
)

// check asks for what two graphs are, also turned round, and holds it against their Canons and their Sorted ones.
func check(t *testing.T, a, b api.Graph, want alike) {
	t.Helper()
	if got, e := asked(t, a, b); got != want || e != api.OK {
		t.Fatalf("%s and %s: %+v, %v, not %+v", shown(a), shown(b), got, e, want)
	}
	if got, e := asked(t, b, a); got != want || e != api.OK {
		t.Fatalf("turned round, %s and %s: %+v, %v, not %+v", shown(b), shown(a), got, e, want)
	}
	checkForms(t, a, b, want)
}

// checkForms is P13.5: what is the same has one Canon, and what is like one Sorted.
func checkForms(t *testing.T, a, b api.Graph, want alike) {
	t.Helper()
	canonA, _ := graph.Canon(a)
	canonB, _ := graph.Canon(b)
	if got := graph.Same(canonA, canonB); got != want.same {
		t.Fatalf("%s and %s have one Canon: %v, but are %+v", shown(a), shown(b), got, want)
	}
	sortedA, e := iso.Sorted(a)
	sortedB, e2 := iso.Sorted(b)
	if got := graph.Same(sortedA, sortedB); got != want.like || e != api.OK || e2 != api.OK {
		t.Fatalf("%s and %s have one Sorted: %v (%v, %v), but are %+v", shown(a), shown(b), got, e, e2, want)
	}
}

// agree is check against the words written a second time; it tells what they are.
func agree(t *testing.T, a, b api.Graph) alike {
	t.Helper()
	want := wantAlike(a, b)
	check(t, a, b, want)
	return want
}

func checkTexts(t *testing.T, a, b string, want alike) {
	t.Helper()
	x, y := composed(t, a), composed(t, b)
	check(t, x, y, want)
	agree(t, x, y)
	if got := wantEqual(x, y); got != want.equal {
		t.Fatalf("%s and %s: %v by their colours", a, b, got)
	}
}

// P13.1

func TestExample(t *testing.T) {
	checkTexts(t, "&a [*a]", "&a [[*a]]", equal)
	check(t, of(seq(0)), of(seq(1), seq(0)), equal)
}

func TestAlikeAndApart(t *testing.T) {
	for _, x := range []struct {
		a, b string
		want alike
	}{
		{"~", "~", same}, {"5", "5", same}, {"a", "a", same}, {"true", "true", same}, {"''", "''", same}, {"[]", "[]", same}, {"{}", "{}", same}, {"[a, {b: 5}]", "[a, {b: 5}]", same},
		// One Kind.
		{"~", "''", apart}, {"5", "'5'", apart}, {"true", "'true'", apart}, {"[]", "{}", apart}, {"[]", "~", apart}, {"{}", "''", apart}, {"[5]", "['5']", apart}, {"[[]]", "[{}]", apart}, {"{a: 5}", "{a: '5'}", apart}, {"{a: ~}", "{a: ''}", apart}, {"[a, [b, [5]]]", "[a, [b, ['5']]]", apart}, {"[a, b]", "{a: b}", apart}, {"&a [*a]", "[~]", apart},
		// One Text.
		{"a", "b", apart}, {"5", "6", apart}, {"true", "false", apart}, {"a", "A", apart}, {"a", "aa", apart}, {"''", "' '", apart}, {"[a]", "[b]", apart}, {"[a, a]", "[a, b]", apart}, {"[a, a]", "[b, a]", apart}, {"{a: 5}", "{a: 6}", apart}, {"{a: 5}", "{b: 5}", apart}, {"[a, [b, [c]]]", "[a, [b, [d]]]", apart}, {"&a [x, *a]", "&a [y, *a]", apart}, {"&a [*a, x]", "&a [*a, y]", apart},
		// How many Kids.
		{"[]", "[a]", apart}, {"[a]", "[a, a]", apart}, {"[[]]", "[[], []]", apart}, {"[[]]", "[[[]]]", apart}, {"{}", "{a: 5}", apart}, {"[a, b]", "[a, b, c]", apart}, {"[a, b]", "[b]", apart}, {"&a [*a]", "&a [*a, *a]", apart}, {"&a [*a]", "[[[]]]", apart}, {"[a, [b]]", "[a, [b, ~]]", apart},
		// A Seq's order.
		{"[a, b]", "[b, a]", apart}, {"[[], {}]", "[{}, []]", apart}, {"[a, a, b]", "[a, b, a]", apart},
		// A Map's order.
		{"{a: 5, b: 6}", "{b: 6, a: 5}", like}, {"{a: 5, b: 5}", "{b: 5, a: 5}", like}, {"{a: 5, b: 6}", "{b: 5, a: 6}", apart}, {"{a: 5, b: 6, c: 7}", "{c: 7, a: 5, b: 6}", like}, {"[{a: 5, b: 6}]", "[{b: 6, a: 5}]", like}, {"{x: {a: 5, b: 6}, y: ~}", "{x: {b: 6, a: 5}, y: ~}", like}, {"{x: {a: 5, b: 6}, y: ~}", "{y: ~, x: {a: 5, b: 6}}", like}, {"{a: 5, b: [{}]}", "{b: [{}], a: 5}", like},
		// A key more, or another one.
		{"{a: 5}", "{a: 5, b: 5}", apart}, {"{a: 5}", "{b: 5, a: 5}", apart}, {"{a: 5, b: 5}", "{a: 5, c: 5}", apart}, {"{a: 5, b: 5, c: 5}", "{a: 5, b: 5, d: 5}", apart}, {"[{a: 5, b: 5}, ~]", "[{a: 5, b: 5, c: 5}, ~]", apart},
		// Keys of one Text and other Kinds.
		{"{5: a}", "{'5': a}", apart}, {"{~: a}", "{'': a}", apart}, {"{true: a}", "{'true': a}", apart}, {"{5: a, '5': b}", "{'5': b, 5: a}", like}, {"{5: a, '5': b}", "{5: b, '5': a}", apart}, {"{5: a, '5': b}", "{5: a, '6': b}", apart}, {"{~: a, '': b}", "{'': b, ~: a}", like}, {"{5: a, '5': a}", "{'5': a, 5: a}", like}, {"{true: a, 'true': b}", "{'true': a, true: b}", apart},
		// Keys and values that are one another's.
		{"{a: b}", "{b: a}", apart}, {"{a: b, b: a}", "{b: a, a: b}", like}, {"{a: a}", "{a: a}", same},
	} {
		checkTexts(t, x.a, x.b, x.want)
		// Behind something, in a list, as an entry, and within a circle.
		checkTexts(t, "[x, "+x.a+"]", "[x, "+x.b+"]", x.want)
		checkTexts(t, "{k: "+x.a+", l: 5}", "{k: "+x.b+", l: 5}", x.want)
		checkTexts(t, "&c [*c, "+x.a+"]", "&c [*c, "+x.b+"]", x.want)
		checkTexts(t, "&c [["+x.a+", *c]]", "&c [["+x.b+", *c]]", x.want)
	}
}

func TestCircles(t *testing.T) {
	for _, x := range []struct {
		a, b string
		want alike
	}{
		{"&a [*a]", "&a [*a]", same}, {"&a [[*a]]", "&b [[*b]]", same}, {"&a [[*a]]", "&a [[[*a]]]", equal}, {"&a [*a]", "[&a [*a]]", equal}, {"[&a [*a]]", "[[&a [*a]]]", equal}, {"[&a [*a]]", "&a [[*a]]", equal}, {"[&a [[*a]]]", "&a [[[*a]]]", equal},
		{"&a [*a, *a]", "&a [*a, *a]", same}, {"&a [*a, *a]", "&a [[*a, *a], *a]", equal}, {"&a [*a, *a]", "&a [&b [*a, *b], *b]", equal}, {"&a [&b [*a, *b], *b]", "&a [&b [*b, *a], *b]", equal}, {"&a [&b [*a, *b], *b]", "&a [*a, &b [*a, *b]]", equal}, {"&a [[*a, *a], [*a, *a]]", "&a [&b [*a, *a], *b]", equal},
		{"&a {k: *a}", "&a {k: {k: *a}}", equal}, {"&a {k: *a}", "&a {l: *a}", apart}, {"&a {k: *a}", "&a {k: {l: *a}}", apart}, {"&a {k: *a}", "&a [*a]", apart}, {"&a {k: *a}", "{k: &a {k: *a}}", equal},
		// Entries in another order within a circle.
		{"&a {k: *a, l: 5}", "&a {l: 5, k: *a}", like}, {"&a {k: {k: *a, l: 5}, l: 5}", "&a {l: 5, k: {k: *a, l: 5}}", like}, {"&a {k: *a, l: 5}", "&a {l: 5, k: {l: 5, k: *a}}", equal}, {"&a {k: *a, l: 5}", "&a {k: {k: *a, l: 5}, l: 5}", equal}, {"&a {k: *a, l: 5}", "&a {l: 6, k: *a}", apart}, {"&a {k: [*a, {l: *a, m: ~}]}", "&a {k: [*a, {m: ~, l: *a}]}", like},
		{"&a {k: *a, l: [*a]}", "&a {l: [*a], k: *a}", like}, {"&a {k: &b [*a], l: *b}", "&a {l: &b [*a], k: *b}", like}, {"&a {k: &b [*a], l: *b}", "&a {l: [*a], k: [*a]}", equal},
		// Circles that part at last.
		{"&a [x, *a]", "&a [x, [x, *a]]", equal}, {"&a [x, *a]", "&a [x, [y, *a]]", apart}, {"&a [x, [y, *a]]", "&a [x, [y, [x, *a]]]", apart}, {"&a [x, [y, *a]]", "&a [x, [y, [x, [y, *a]]]]", equal}, {"&a [x, [y, *a]]", "[x, &a [y, [x, *a]]]", equal}, {"&a [x, [y, *a]]", "&a [y, [x, *a]]", apart},
		// Without an end, and with one.
		{"&a [*a]", "[[]]", apart}, {"&a [*a]", "[[[[~]]]]", apart}, {"&a [*a]", "&a [[[], *a]]", apart},
	} {
		checkTexts(t, x.a, x.b, x.want)
		checkTexts(t, "{k: "+x.a+"}", "{k: "+x.b+"}", x.want)
	}
}

// circle are so many Seqs, each with the next one in it, the last one with the first one.
func circle(count int) api.Graph {
	var g api.Graph
	for i := range count {
		g.Nodes = append(g.Nodes, seq((i+1)%count))
	}
	return g
}

func TestCirclesOfOtherLengths(t *testing.T) {
	for a := 1; a <= 12; a++ {
		for b := 1; b <= 12; b++ {
			want := equal
			if a == b {
				want = same
			}
			check(t, circle(a), circle(b), want)
			for root := range b {
				check(t, circle(a), api.Graph{Nodes: circle(b).Nodes, Root: root}, want)
			}
			// An end in one of them, wherever it is.
			other := circle(b)
			other.Nodes[b/2] = seq()
			check(t, circle(a), other, apart)
			other.Nodes[b/2] = null
			check(t, circle(a), other, apart)
		}
	}
}

// beads is a circle of Maps with texts, x but at one place y.
func beads(count, other int) api.Graph {
	var g api.Graph
	for i := range count {
		text := "x"
		if i == other {
			text = "y"
		}
		g.Nodes = append(g.Nodes, dict(4*i+1, 4*i+2, 4*i+3, (4*i+4)%(4*count)), str("is"), str(text), str("next"))
	}
	return g
}

func TestBeads(t *testing.T) {
	check(t, beads(6, -1), beads(9, -1), equal)
	check(t, beads(6, 5), beads(6, 5), same)
	check(t, beads(6, 5), beads(6, 4), apart)
	// A bead that is another one comes at other places, and so they part, at the latest behind both.
	for a := 1; a <= 7; a++ {
		for b := 1; b <= 7; b++ {
			for which := range a {
				want := apart
				if a == b {
					want = same
				}
				check(t, beads(a, which), beads(b, which), want)
				check(t, beads(a, which), beads(a, -1), apart)
			}
		}
	}
	// The same beads, gone round once and twice.
	twice := beads(8, 3)
	twice.Nodes[4*7+2].Text = "y"
	check(t, beads(4, 3), twice, equal)
	twice.Nodes[4*7+2].Text = "z"
	check(t, beads(4, 3), twice, apart)
}

func TestSharedAndTwice(t *testing.T) {
	for _, x := range []struct {
		a, b string
		want alike
	}{
		{"[&a x, *a]", "[x, x]", equal}, {"[&a [], *a]", "[[], []]", equal}, {"{k: &a x, l: *a}", "{k: x, l: x}", equal}, {"[&a x, *a]", "[&a x, *a]", same}, {"[&a x, *a, x]", "[&a x, x, *a]", equal}, {"[&a x, *a, x]", "[x, &a x, *a]", equal}, {"[&a x, *a, *a]", "[&a x, *a, x]", equal}, {"[&a x, &b x, *a, *b]", "[&a x, &b x, *b, *a]", equal}, {"[&a x, &b x, *a, *b]", "[&b x, &a x, *b, *a]", same},
		{"[&a [x], [*a]]", "[[x], [[x]]]", equal}, {"[[&a x], [*a]]", "[&a [x], *a]", equal}, {"[[&a x], [*a]]", "[[x], [x]]", equal}, {"[&a x, y, *a]", "[x, y, x]", equal}, {"[&a x, *a]", "[x, y]", apart},
		{"{k: &a x, l: *a}", "{l: &a x, k: *a}", like}, {"{k: &a x, l: *a, m: x}", "{m: x, l: &a x, k: *a}", like}, {"{k: &a x, l: *a, m: x}", "{m: &a x, l: *a, k: x}", equal}, {"{k: &a x, l: *a, m: x}", "{k: x, l: &a x, m: *a}", equal}, {"{k: &a [x], l: [*a]}", "{l: [&a [x]], k: *a}", like}, {"{k: &a [x], l: [*a]}", "{l: [[x]], k: [x]}", equal},
		// The Root is shared.
		{"&a [x, [*a]]", "[x, [&a [x, [*a]]]]", equal}, {"&a {k: {l: *a}}", "{k: &a {l: {k: *a}}}", equal},
	} {
		checkTexts(t, x.a, x.b, x.want)
		checkTexts(t, "[~, "+x.a+"]", "[~, "+x.b+"]", x.want)
	}
	// A node that is paired with two in one graph alone, which is the first one or the second one.
	check(t, of(seq(1, 1), null), of(seq(1, 2), null, null), equal)
	check(t, of(seq(1, 2, 1), null, null), of(seq(1, 2, 2), null, null), equal)
	check(t, of(seq(1, 2, 3, 1, 2, 3), null, null, null), of(seq(1, 2, 3, 2, 3, 1), null, null, null), equal)
}

func TestNodesThatAreNotReached(t *testing.T) {
	a, b := str("a"), str("b")
	check(t, of(a), of(a, b), same)
	check(t, of(a, seq(0), seq(1)), of(a, dict(2, 0), b), same)
	check(t, rooted(1, b, a), of(a), same)
	check(t, of(a, b), of(b, a), apart)
	check(t, rooted(1, a, b), rooted(0, b, a), same)
	check(t, of(seq(1), a, seq(1)), of(seq(1), a), same)
	check(t, of(seq(1, 1), a, seq(1)), of(seq(1, 2), a, a, seq(1)), equal)
	check(t, of(dict(1, 2), a, b, dict(4, 2), a), of(dict(1, 2), a, b), same)
	// Nor do the places matter.
	check(t, of(seq(1, 2), a, b), of(seq(2, 1), b, a), same)
	check(t, of(seq(1, 2), a, b), rooted(2, b, a, seq(1, 0)), same)
	check(t, of(dict(1, 2, 3, 4), a, null, b, null), rooted(4, null, null, b, a, dict(3, 1, 2, 0)), same)
}

// refused are graphs that may not be.
func refused() []api.Graph {
	a := str("a")
	many := slices.Repeat([]api.Node{null}, 4097)
	return []api.Graph{
		{}, {Nodes: []api.Node{}}, {Root: 1}, of(api.Node{}), rooted(-1, a), rooted(1, a), rooted(math.MinInt, a), rooted(math.MaxInt, a),
		of(seq(1)), of(seq(-1)), of(seq(math.MaxInt)), of(seq(math.MinInt)), of(seq(0, 0, 5)), of(api.Node{Kind: api.Alias}), of(api.Node{Kind: 8}), of(api.Node{Kind: -1}),
		of(str("\xff")), of(number("05")), of(boolean("yes")), of(api.Node{Kind: api.Null, Text: "~"}), of(api.Node{Kind: api.Seq, Text: "a"}), of(api.Node{Kind: api.Str, Kids: []int{0}}),
		of(dict(1), a), of(dict(1, 2, 3), a, a, a), of(dict(0, 1), a), of(dict(1, 2), seq(), a), of(dict(1, 1), a), of(dict(1, 2, 3, 2), a, null, a), of(dict(1, 2, 2, 0), a, null), rooted(1, dict(1, 2), a, null),
		// Just where it is not reached.
		of(a, seq(9)), of(a, str("\xff")), of(a, dict(0, 2), a), of(dict(1, 2), a, a, seq(1)), of(a, api.Node{}),
		of(many...), of(append([]api.Node{seq(1, 4096)}, many[1:]...)...),
	}
}

func TestGraphsThatMayNotBe(t *testing.T) {
	right := []api.Graph{of(str("a")), of(seq(0)), of(dict(1, 2), str("a"), null)}
	for _, g := range refused() {
		for _, other := range append(right, g, api.Graph{}, of(str("\xff"))) {
			for _, two := range [][2]api.Graph{{g, other}, {other, g}} {
				if got, e := asked(t, two[0], two[1]); got != apart || e != api.ErrArg {
					t.Errorf("%s and %s: %+v, %v", shown(two[0]), shown(two[1]), got, e)
				}
			}
		}
	}
}

func TestTextsOfAnyLength(t *testing.T) {
	long := strings.Repeat("\u20ac", api.MaxText)
	check(t, of(dict(1, 2), str(long), str(long)), of(dict(1, 2), str(strings.Clone(long)), str(strings.Clone(long))), same)
	check(t, of(dict(1, 2), str(long), str(long)), of(dict(1, 2), str(long), str(long+"a")), apart)
	check(t, of(dict(1, 2), str(long), str(long)), of(dict(1, 2), str(long+"a"), str(long)), apart)
	check(t, of(dict(1, 2, 3, 4), str(long+"a"), null, str(long), null), of(dict(1, 2, 3, 4), str(long), null, str(long+"a"), null), like)
}

// Great graphs: what follows from pairs is not gone to again.

func TestGreatCircles(t *testing.T) {
	check(t, circle(4096), circle(4096), same)
	check(t, circle(4096), circle(4095), equal)
	check(t, circle(4093), circle(4091), equal)
	check(t, circle(1), circle(4096), equal)
	check(t, beads(1024, 1023), beads(1024, 1023), same)
	check(t, beads(1023, -1), beads(1024, -1), equal)
	check(t, beads(1023, 1022), beads(1024, 1022), apart)
	broken := circle(4096)
	broken.Nodes[4095] = seq()
	check(t, circle(4095), broken, apart)
	check(t, broken, broken, same)
}

// ladder are so many Seqs of the next one, twice; of two that take turns, if it is wide.
func ladder(count int, isWide bool) api.Graph {
	var g api.Graph
	for i := range count {
		if isWide {
			g.Nodes = append(g.Nodes, seq(2*i+2, 2*i+3), seq(2*i+3, 2*i+2))
		} else {
			g.Nodes = append(g.Nodes, seq(i+1, i+1))
		}
	}
	if isWide {
		return of(append(g.Nodes, null, null)...)
	}
	return of(append(g.Nodes, null)...)
}

func TestLadders(t *testing.T) {
	check(t, ladder(4095, false), ladder(4095, false), same)
	check(t, ladder(2047, false), ladder(2047, true), equal)
	check(t, ladder(2047, true), ladder(2047, true), same)
	check(t, ladder(2047, false), ladder(2046, false), apart)
	last := ladder(2047, true)
	last.Nodes[4095] = number("5")
	check(t, ladder(2047, false), last, apart)
	check(t, ladder(2047, true), last, apart)
}

func TestManyKids(t *testing.T) {
	kids := make([]int, 1<<20)
	for i := range kids {
		kids[i] = i & 1
	}
	other := slices.Clone(kids)
	other[len(other)-1] = 0
	check(t, of(seq(kids...), seq(kids...)), of(seq(kids...), seq(kids...)), same)
	check(t, of(seq(kids...), seq(kids...)), of(seq(make([]int, 1<<20)...)), equal)
	check(t, of(seq(kids...), seq(kids...)), of(seq(kids...), seq(other...)), equal)
	check(t, of(seq(kids...), null), of(seq(other...), null), apart)
	check(t, of(seq(kids...), null), of(seq(kids[1:]...), null), apart)
}

// wideMap is a Map of numbers and texts as keys, all of one value, which rise or fall.
func wideMap(count int, isFalling bool) api.Graph {
	g := of(dict(), null)
	for i := range count {
		if isFalling {
			i = count - 1 - i
		}
		key := number(strconv.Itoa(i))
		if i >= count/2 {
			key = str(strconv.Itoa(i))
		}
		g.Nodes[0].Kids = append(g.Nodes[0].Kids, len(g.Nodes), 1)
		g.Nodes = append(g.Nodes, key)
	}
	return g
}

func TestWideMaps(t *testing.T) {
	check(t, wideMap(4094, false), wideMap(4094, false), same)
	check(t, wideMap(4094, false), wideMap(4094, true), like)
	check(t, wideMap(4094, false), wideMap(4093, true), apart)
	other := wideMap(4094, true)
	other.Nodes[4095].Text = "none"
	other.Nodes[4095].Kind = api.Str
	check(t, wideMap(4094, false), other, apart)
}

// Against the words written a second time

func TestSmallGraphs(t *testing.T) {
	all := smallGraphs(3)
	count := map[alike]int{}
	for i, a := range all {
		for _, b := range all[:i+1] {
			want := wantAlike(a, b)
			if got, e := asked(t, a, b); got != want || e != api.OK {
				t.Fatalf("%v and %v: %+v, %v, not %+v", a, b, got, e, want)
			}
			count[want]++
		}
	}
	if count[same] != len(all) || count[equal] < 500 || count[apart] < 10000 {
		t.Errorf("%v of %d", count, len(all))
	}
}

func TestSmallMaps(t *testing.T) {
	// All Maps of three keys, of which some are taken, with values of two, that may be they themselves.
	var all []api.Graph
	for _, order := range [][]int{{}, {1}, {2}, {3}, {1, 2}, {2, 1}, {1, 3}, {3, 1}, {2, 3}, {3, 2}, {1, 2, 3}, {1, 3, 2}, {2, 1, 3}, {2, 3, 1}, {3, 1, 2}, {3, 2, 1}} {
		for values := range 27 {
			var kids []int
			for _, key := range order {
				kids = append(kids, key, []int{0, 4, 5}[values%3])
				values /= 3
			}
			all = append(all, of(dict(kids...), number("5"), str("5"), str("a"), null, null))
		}
	}
	count := map[alike]int{}
	for i, a := range all {
		for _, b := range all[:i+1] {
			want := wantAlike(a, b)
			if got, e := asked(t, a, b); got != want || e != api.OK {
				t.Fatalf("%v and %v: %+v, %v, not %+v", a, b, got, e, want)
			}
			count[want]++
		}
	}
	if count[same] < 500 || count[like] < 500 || count[equal] < 500 || count[apart] < 10000 {
		t.Errorf("%v of %d", count, len(all))
	}
}

func TestDrawnGraphs(t *testing.T) {
	draw := rand.New(rand.NewSource(1))
	count := map[alike]int{}
	for n := range 10000 {
		g := drawnGraph(draw, 1+n%10)
		check(t, g, copied(g), same)
		check(t, g, moved(draw, g), same)
		check(t, g, surrounded(draw, g), same)
		for _, other := range []api.Graph{mixed(draw, g), doubled(draw, g), doubled(draw, mixed(draw, doubled(draw, g))), drawnGraph(draw, 3)} {
			count[agree(t, g, moved(draw, other))]++
		}
		if other := turned(draw, g); graph.Right(other) {
			count[agree(t, g, other)]++
			count[agree(t, doubled(draw, g), mixed(draw, other))]++
		}
	}
	for _, kind := range []alike{apart, equal, like, same} {
		if count[kind] < 1000 {
			t.Errorf("only %d of %+v", count[kind], kind)
		}
	}
}

func TestDrawnGraphsMeanWhatTheyMean(t *testing.T) {
	draw := rand.New(rand.NewSource(2))
	count := map[alike]int{}
	for n := range 4000 {
		g := drawnGraph(draw, 1+n%8)
		for _, other := range []api.Graph{mixed(draw, doubled(draw, g)), turned(draw, doubled(draw, g)), drawnGraph(draw, 1+n%8)} {
			if !graph.Right(other) {
				continue
			}
			want := agree(t, g, other)
			if wantEqual(g, other) != want.equal {
				t.Fatalf("%v and %v: %+v, but not by their colours", g, other, want)
			}
			count[want]++
		}
		// Whatever is mixed or doubled, and however often, means the same.
		if got := agree(t, g, mixed(draw, g)); !got.like {
			t.Fatalf("%v, mixed, is %+v", g, got)
		}
		if got := agree(t, g, doubled(draw, g)); !got.equal {
			t.Fatalf("%v, doubled, is %+v", g, got)
		}
	}
	if count[equal] < 500 || count[apart] < 500 {
		t.Errorf("only %v", count)
	}
}

func TestGreatDrawnGraphs(t *testing.T) {
	draw := rand.New(rand.NewSource(3))
	for range 10 {
		g := drawnGraph(draw, 600)
		other := g
		for range 5 {
			other = doubled(draw, mixed(draw, other))
		}
		if got := agree(t, g, other); !got.equal {
			t.Fatalf("doubled, it is %+v", got)
		}
		check(t, g, surrounded(draw, g), same)
		if other = turned(draw, other); graph.Right(other) {
			agree(t, g, other)
		}
	}
}

func TestTurnedGraphs(t *testing.T) {
	draw := rand.New(rand.NewSource(4))
	right, wrong := 0, 0
	for n := range 20000 {
		g := drawnGraph(draw, 1+n%6)
		other := turned(draw, turned(draw, g))
		if graph.Right(other) {
			agree(t, g, other)
			right++
			continue
		}
		wrong++
		for _, two := range [][2]api.Graph{{g, other}, {other, g}, {other, other}} {
			if got, e := asked(t, two[0], two[1]); got != apart || e != api.ErrArg {
				t.Fatalf("%v and %v: %+v, %v", two[0], two[1], got, e)
			}
		}
	}
	if right < 2000 || wrong < 2000 {
		t.Errorf("only %d may be, and %d may not", right, wrong)
	}
}

// P13.3

func TestOverAThirdOne(t *testing.T) {
	draw := rand.New(rand.NewSource(5))
	count := map[alike]int{}
	next := func(g api.Graph) api.Graph {
		switch draw.Intn(5) {
		case 0:
			return mixed(draw, g)
		case 1:
			return doubled(draw, g)
		case 2:
			if other := turned(draw, g); graph.Right(other) {
				return other
			}
		}
		return moved(draw, g)
	}
	for n := range 20000 {
		a := drawnGraph(draw, 1+n%8)
		b := next(a)
		c := next(b)
		check(t, a, a, same)
		ab, _ := asked(t, a, b)
		bc, _ := asked(t, b, c)
		ac, _ := asked(t, a, c)
		check(t, a, b, ab)
		check(t, b, c, bc)
		check(t, a, c, ac)
		if ab.equal && bc.equal && !ac.equal || ab.like && bc.like && !ac.like || ab.same && bc.same && !ac.same {
			t.Fatalf("%v is %+v to %v, which is %+v to %v, but the first one is %+v to it", a, ab, b, bc, c, ac)
		}
		count[ac]++
	}
	for _, kind := range []alike{apart, equal, like, same} {
		if count[kind] < 500 {
			t.Errorf("only %d of %+v", count[kind], kind)
		}
	}
}

// checkFamilies puts graphs into families, and asks that all of one are so to one another, turned round, too, and to none of the others.
func checkFamilies(t *testing.T, all []api.Graph, isSo func(a, b api.Graph) (bool, api.Errno)) {
	t.Helper()
	var families [][]api.Graph
next:
	for _, g := range all {
		for i, family := range families {
			first, _ := isSo(family[0], g)
			for _, member := range family {
				one, _ := isSo(member, g)
				two, _ := isSo(g, member)
				if one != first || two != first {
					t.Fatalf("%v and %v: %v, %v, but %v to %v", member, g, one, two, first, family[0])
				}
			}
			if first {
				families[i] = append(family, g)
				continue next
			}
		}
		families = append(families, []api.Graph{g})
		if itself, _ := isSo(g, g); !itself {
			t.Fatalf("%v is not so to itself", g)
		}
	}
	if len(families) < 2 || len(families) > len(all) {
		t.Errorf("%d families of %d", len(families), len(all))
	}
}

func TestFamilies(t *testing.T) {
	all := smallGraphs(2)
	for _, g := range smallGraphs(2) {
		// At other places, and not all of them reached.
		all = append(all, of(append(g.Nodes, seq(0))...))
	}
	for _, text := range []string{"{a: 5, b: 6}", "{b: 6, a: 5}", "{a: &x [], b: *x}", "{b: &x [], a: *x}", "{a: [], b: []}", "&x {a: *x, b: *x}", "&x {b: *x, a: *x}", "&x {a: {b: *x, a: *x}, b: *x}", "&a [[[*a]]]", "[&a [[*a]]]"} {
		all = append(all, composed(t, text))
	}
	checkFamilies(t, all, iso.Equal)
	checkFamilies(t, all, iso.Like)
	checkFamilies(t, all, iso.Iso)
}

// P13.4

func TestSameIsLikeAndLikeIsEqual(t *testing.T) {
	all := smallGraphs(2)
	draw := rand.New(rand.NewSource(6))
	for range 120 {
		g := drawnGraph(draw, 3)
		all = append(all, g, mixed(draw, g), doubled(draw, g))
	}
	for _, a := range all {
		for _, b := range all {
			if got, e := asked(t, a, b); got.same && !got.like || got.like && !got.equal || e != api.OK {
				t.Fatalf("%v and %v: %+v, %v", a, b, got, e)
			}
		}
	}
}

// P13.5

func TestOneCanonAndOneSorted(t *testing.T) {
	draw := rand.New(rand.NewSource(7))
	for n := range 5000 {
		g := drawnGraph(draw, 1+n%10)
		canon, _ := graph.Canon(g)
		check(t, g, canon, same)
		sorted, _ := iso.Sorted(g)
		want := agree(t, g, sorted)
		if !want.like {
			t.Fatalf("%v and its Sorted %v: %+v", g, sorted, want)
		}
		// It is the same just where the entries stood so.
		if canonSorted := wantSorted(canon); graph.Same(canonSorted, canon) != want.same {
			t.Fatalf("%v and its Sorted %v: %+v", g, sorted, want)
		}
	}
}
