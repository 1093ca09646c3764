package lay_test

import (
	"math/rand"
	"slices"
	"strings"
	"testing"

	"grommet/api"
	"grommet/flow"
	"grommet/graph"
	"grommet/lay"
)

func tree(kind int, text string, kids ...api.Tree) api.Tree {
	return api.Tree{Kind: kind, Text: text, Kids: kids}
}

func alias(name string) api.Tree { return api.Tree{Kind: api.Alias, Anchor: name} }

func anchored(name string, t api.Tree) api.Tree {
	t.Anchor = name
	return t
}

// nested are Seqs within one another, around the last ones.
func nested(count int, last ...api.Tree) api.Tree {
	t := tree(api.Seq, "", last...)
	for range count - 1 {
		t = tree(api.Seq, "", t)
	}
	return t
}

// read is the tree that a text means.
func read(t *testing.T, s string) api.Tree {
	t.Helper()
	v, f := flow.Whole(s)
	if f != (api.Fault{}) {
		t.Fatalf("%.999q: %v", s, f)
	}
	return v
}

// agreeTrim holds Trim against the words written a second time, and asks what follows; it tells Trim's error.
func agreeTrim(t *testing.T, next api.Tree) api.Errno {
	t.Helper()
	want, why := wantTrim(next)
	got, e := lay.Trim(next)
	if !sameTree(got, want) || e != why {
		t.Fatalf("Trim(%s): %s, %v, not %s, %v", shown(next), text(got), e, text(want), why)
	}
	if e == api.OK {
		checkTrimmed(t, got)
		checkMeansTheSame(t, next, got)
	}
	return e
}

func checkTrimError(t *testing.T, next api.Tree, why api.Errno) {
	t.Helper()
	if got, e := lay.Trim(next); !sameTree(got, api.Tree{}) || e != why {
		t.Fatalf("Trim(%s): %s, %v, not %v", shown(next), text(got), e, why)
	}
}

// P14.2

func TestTrim(t *testing.T) {
	for _, x := range []struct{ text, want string }{
		// Without Anchors.
		{"~", "null"}, {"5", "5"}, {"'5'", `"5"`}, {"a", "a"}, {"[]", "[]"}, {"{}", "{}"}, {"[a, {b: [5, ~]}]", "[a, {b: [5, null]}]"}, {"{b: a, a: b}", "{b: a, a: b}"}, {"[[], [], a, a]", "[[], [], a, a]"},
		// Anchors that no Alias names.
		{"&x 5", "5"}, {"&a1 []", "[]"}, {"&x [&y a, {b: &z {}}]", "[a, {b: {}}]"}, {"[&x a, &x a]", "[a, a]"}, {"&x [&y a, *y]", "[&a1 a, *a1]"}, {"&x [[*x], &y 5]", "&a1 [[*a1], 5]"}, {"[&a1 a, &a2 b, *a2]", "[a, &a1 b, *a1]"}, {"{a: &a1 ~, b: &a2 5, c: *a2}", "{a: null, b: &a1 5, c: *a1}"},
		// Anchors that stand twice.
		{"[&x a, *x, &x b, *x]", "[&a1 a, *a1, &a2 b, *a2]"}, {"[&x a, &x b, *x]", "[a, &a1 b, *a1]"}, {"&x [&x [*x], *x]", "[&a1 [*a1], *a1]"}, {"&x [*x, &x a, *x]", "&a1 [*a1, &a2 a, *a2]"}, {"[&x [&x a], *x]", "[[&a1 a], *a1]"}, {"[&a1 a, &a1 b, *a1, &a1 5]", "[a, &a1 b, *a1, 5]"}, {"{a: &x 5, b: &x {a: *x}}", "{a: 5, b: &a1 {a: *a1}}"},
		// Other names, and these in another order.
		{"[&x a, *x]", "[&a1 a, *a1]"}, {"[&A-_0 a, *A-_0]", "[&a1 a, *a1]"}, {"[&a2 a, &a1 b, *a1, *a2]", "[&a1 a, &a2 b, *a2, *a1]"}, {"[&a1 a, &a01 b, *a01, *a1]", "[&a1 a, &a2 b, *a2, *a1]"}, {"[&a7 a, *a7]", "[&a1 a, *a1]"}, {"&z [&y {k: [*z, *y]}, *y]", "&a1 [&a2 {k: [*a1, *a2]}, *a2]"}, {"[&abcdefghijklmnopqrstuvwxyz012345 a, *abcdefghijklmnopqrstuvwxyz012345]", "[&a1 a, *a1]"},
		{"[&j 1, &i 2, &h 3, &g 4, &f 5, &e 6, &d 7, &c 8, &b 9, &a 10, *a, *b, *c, *d, *e, *f, *g, *h, *i, *j]", "[&a1 1, &a2 2, &a3 3, &a4 4, &a5 5, &a6 6, &a7 7, &a8 8, &a9 9, &a10 10, *a10, *a9, *a8, *a7, *a6, *a5, *a4, *a3, *a2, *a1]"},
		// As it stands.
		{"&a1 [*a1, 5]", "&a1 [*a1, 5]"}, {"[&a1 a, &a2 b, *a2, *a1]", "[&a1 a, &a2 b, *a2, *a1]"}, {"&a1 {k: &a2 [*a1, *a2]}", "&a1 {k: &a2 [*a1, *a2]}"},
		// Tags and quotes are gone, as in any tree.
		{"[!!str 5, &x !!int 5, *x, 'a']", `["5", &a1 5, *a1, a]`},
	} {
		next := read(t, x.text)
		got, e := lay.Trim(next)
		if s, wrong := flow.Write(got); s != x.want || wrong != api.OK || e != api.OK {
			t.Fatalf("Trim(%s): %s (%v), %v, not %s", x.text, s, wrong, e, x.want)
		}
		agreeTrim(t, next)
		agreeTrim(t, tree(api.Seq, "", next, next))
	}
}

func TestTrimOfTreesThatMayNotBe(t *testing.T) {
	a, list := tree(api.Str, "a"), tree(api.Seq, "")
	for _, wrong := range []api.Tree{
		{}, {Kind: -1}, {Kind: 8}, alias(""), alias("a b"), alias(strings.Repeat("a", 33)), anchored("a.b", a), anchored(strings.Repeat("a", 33), list), anchored("\u20ac", a),
		tree(api.Null, "~"), tree(api.Bool, "yes"), tree(api.Int, "05"), tree(api.Str, "\xff"), tree(api.Seq, "a"), tree(api.Map, "a"), {Kind: api.Alias, Anchor: "a", Text: "a"},
		tree(api.Null, "", a), tree(api.Str, "a", a), {Kind: api.Alias, Anchor: "a", Kids: []api.Tree{a}},
		tree(api.Map, "", a), tree(api.Map, "", a, a, a), tree(api.Map, "", list, a), tree(api.Map, "", anchored("a", a), a), anchored("x", tree(api.Map, "", alias("x"), a)),
		nested(65), nested(66), tree(api.Seq, "", slices.Repeat([]api.Tree{a}, 4096)...), anchored("x", tree(api.Seq, "", slices.Repeat([]api.Tree{alias("x")}, 4096)...)),
	} {
		checkTrimError(t, wrong, api.ErrArg)
		checkTrimError(t, tree(api.Seq, "", wrong), api.ErrArg)
		// It is told ahead of what Compose tells.
		checkTrimError(t, tree(api.Seq, "", alias("x"), wrong), api.ErrArg)
		checkTrimError(t, tree(api.Seq, "", tree(api.Map, "", a, a, a, a), wrong), api.ErrArg)
		agreeTrim(t, wrong)
	}
	// A list that has itself in it is a tree without an end.
	endless := []api.Tree{list}
	endless[0].Kids = endless
	if got, e := lay.Trim(endless[0]); len(got.Kids) != 0 || got.Kind != 0 || e != api.ErrArg {
		t.Error(len(got.Kids), e)
	}
}

func TestTrimOfTreesThatAreNotComposed(t *testing.T) {
	for _, x := range []struct {
		text string
		why  api.Errno
	}{
		{"*x", api.ErrName}, {"[*x]", api.ErrName}, {"[*x, &x 5]", api.ErrName}, {"{a: [*a1]}", api.ErrName}, {"[&y 5, *x]", api.ErrName}, {"[&a1 5, *a1, *a2]", api.ErrName}, {"[&x 5, *X]", api.ErrName},
		{"{a: 5, a: 6}", api.ErrThere}, {"[{5: a, 5: b}]", api.ErrThere}, {"{a: 5, 'a': 5}", api.ErrThere}, {"&x {~: *x, null: *x}", api.ErrThere},
		// The first one is told.
		{"[*x, {a: 5, a: 5}]", api.ErrName}, {"[{a: 5, a: 5}, *x]", api.ErrThere}, {"{a: *x, a: 5}", api.ErrName}, {"{a: 5, a: *x}", api.ErrThere},
	} {
		next := read(t, x.text)
		checkTrimError(t, next, x.why)
		agreeTrim(t, next)
	}
}

func TestTrimOfGreatTrees(t *testing.T) {
	// What may be as a tree is neither too deep nor too many.
	a, x := tree(api.Str, "a"), alias("x")
	for _, next := range []api.Tree{
		nested(64), nested(64, a, a), anchored("x", nested(64, x)), anchored("x", nested(63, anchored("x", tree(api.Seq, "", x)))), anchored("y", nested(64, anchored("x", a), x, alias("y"))),
		tree(api.Seq, "", slices.Repeat([]api.Tree{a}, 4095)...), anchored("x", tree(api.Seq, "", slices.Repeat([]api.Tree{x}, 4095)...)), tree(api.Seq, "", slices.Repeat([]api.Tree{anchored("x", a)}, 4095)...), tree(api.Seq, "", append(slices.Repeat([]api.Tree{anchored("x", a), x}, 2047), a)...),
		tree(api.Seq, "", append(slices.Repeat([]api.Tree{a}, 4095-63), nested(63))...),
	} {
		if e := agreeTrim(t, next); e != api.OK {
			t.Fatalf("Trim(%s): %v", text(next), e)
		}
	}
}

func TestTrimOfSmallTrees(t *testing.T) {
	count := map[api.Errno]int{}
	for _, list := range slices.Concat(smallTrees(6, "x"), smallTrees(5, "a1", "a2")) {
		for _, next := range list {
			count[agreeTrim(t, next)]++
		}
	}
	for _, why := range []api.Errno{api.OK, api.ErrName, api.ErrThere} {
		if count[why] < 500 {
			t.Errorf("only %d of %v", count[why], why)
		}
	}
	if len(count) != 3 {
		t.Error(count)
	}
}

func TestTrimOfDrawnTrees(t *testing.T) {
	draw := rand.New(rand.NewSource(5))
	count := map[api.Errno]int{}
	for n := range 40000 {
		next := drawnTree(draw, n%6, "a1", "a2", "a")
		if n%5 == 0 {
			next = spoilt(draw, next)
		}
		count[agreeTrim(t, next)]++
	}
	for _, why := range []api.Errno{api.OK, api.ErrArg, api.ErrName, api.ErrThere} {
		if count[why] < 1000 {
			t.Errorf("only %d of %v", count[why], why)
		}
	}
}

// P14.4

// checkTrimmed asks that a graph's tree is trimmed to itself.
func checkTrimmed(t *testing.T, got api.Tree) {
	t.Helper()
	if again, e := lay.Trim(got); !sameTree(again, got) || e != api.OK {
		t.Fatalf("Trim(%s): %s, %v", text(got), text(again), e)
	}
}

// checkMeansTheSame asks that two trees have one graph.
func checkMeansTheSame(t *testing.T, next, got api.Tree) {
	t.Helper()
	a, e := graph.Compose(next)
	b, e2 := graph.Compose(got)
	if !graph.Same(a, b) || e != api.OK || e2 != api.OK {
		t.Fatalf("Trim(%s): %s, which means another one (%v, %v)", text(next), text(got), e, e2)
	}
	if want, e := lay.Tree(a); !sameTree(got, want) || e != api.OK {
		t.Fatalf("Trim(%s): %s, but its graph's tree is %s, %v", text(next), text(got), text(want), e)
	}
}

func TestTrimOfTrim(t *testing.T) {
	for _, s := range []string{"&x [&y a, *y, *x]", "[&x a, &x b, *x]", "&a2 [&a1 [*a2, *a1]]", "{b: &q {a: *q}, a: [&q 5, *q, *q]}", "&x 5"} {
		next := read(t, s)
		once, e := lay.Trim(next)
		if e != api.OK {
			t.Fatalf("Trim(%s): %v", s, e)
		}
		checkTrimmed(t, once)
		checkMeansTheSame(t, next, once)
	}
}

// The rules that hold everywhere

// lists are a tree's lists of Kids.
func lists(t api.Tree) [][]api.Tree {
	all := [][]api.Tree{t.Kids}
	for _, kid := range t.Kids {
		all = append(all, lists(kid)...)
	}
	return all
}

// spoil writes into a list, and behind its end.
func spoil(list []api.Tree) {
	all := list[:cap(list)]
	for i := range all {
		all[i] = api.Tree{Kind: 99, Text: "spoilt"}
	}
}

func TestAnswersAreTheCallersOwn(t *testing.T) {
	draw := rand.New(rand.NewSource(6))
	for n := range 3000 {
		g := drawnGraph(draw, 1+n%12)
		next := drawnTree(draw, 3, "a")
		keptGraph, keptTree := copied(g), copiedTree(next)
		for _, ask := range []func() api.Tree{
			func() api.Tree { v, _ := lay.Tree(g); return v },
			func() api.Tree { v, _ := lay.Trim(next); return v },
		} {
			want := ask()
			for which := range lists(want) {
				got := ask()
				all := lists(got)
				kept := make([][]api.Tree, len(all))
				for i := range all {
					kept[i] = slices.Clone(all[i])
				}
				spoil(all[which])
				for i, list := range all {
					if i != which && !slices.EqualFunc(list, kept[i], sameNodeAlone) {
						t.Fatalf("of %s list %d shares what list %d has", text(want), i, which)
					}
				}
			}
			for _, list := range lists(ask()) {
				spoil(list)
			}
			if got := ask(); !sameTree(got, want) {
				t.Fatalf("%s, and then %s", text(want), text(got))
			}
		}
		if !graph.Same(g, keptGraph) {
			t.Fatalf("%s was written into: %s", shown(keptGraph), shown(g))
		}
		if !sameTree(next, keptTree) {
			t.Fatalf("%s was written into: %s", text(keptTree), text(next))
		}
	}
}

// sameNodeAlone holds two trees against each other without what their lists have.
func sameNodeAlone(a, b api.Tree) bool {
	return a.Kind == b.Kind && a.Text == b.Text && a.Anchor == b.Anchor && len(a.Kids) == len(b.Kids)
}

func TestNothingHandedInIsKept(t *testing.T) {
	g := of(dict(1, 2, 3, 2), str("a"), seq(0, 4), str("b"), number("5"))
	want := "&a1 {a: &a2 [*a1, 5], b: *a2}"
	got, _ := lay.Tree(g)
	for i := range g.Nodes {
		for k := range g.Nodes[i].Kids {
			g.Nodes[i].Kids[k] = -99
		}
		g.Nodes[i] = api.Node{Kind: 99}
	}
	if s := text(got); s != want {
		t.Error(s)
	}
	next := read(t, "&x {a: &y [*x, 5], b: *y}")
	got, _ = lay.Trim(next)
	for _, list := range lists(next) {
		spoil(list)
	}
	if s := text(got); s != want {
		t.Error(s)
	}
}

func TestListsThatAreNilOrEmpty(t *testing.T) {
	full := of(api.Node{Kind: api.Seq, Kids: []int{1, 2, 1, 3}}, api.Node{Kind: api.Str, Kids: []int{}}, api.Node{Kind: api.Map, Kids: make([]int, 0, 4)}, api.Node{Kind: api.Seq, Kids: []int{}})
	checkTree(t, full, `[&a1 "", {}, *a1, []]`)
	for _, kind := range []int{api.Null, api.Seq, api.Map} {
		if got, e := lay.Trim(api.Tree{Kind: kind, Anchor: "x", Kids: []api.Tree{}}); !sameTree(got, tree(kind, "")) || e != api.OK {
			t.Error(got, e)
		}
	}
}

func TestTheSameCallsHaveTheSameAnswers(t *testing.T) {
	draw := rand.New(rand.NewSource(7))
	for range 200 {
		g := drawnGraph(draw, 30)
		first, e := lay.Tree(g)
		lay.Size(of(seq(0)))
		lay.Trim(alias("x"))
		lay.Tree(api.Graph{})
		if second, e2 := lay.Tree(g); !sameTree(first, second) || e != e2 {
			t.Fatalf("%s, %v, and then %s, %v", text(first), e, text(second), e2)
		}
	}
}
