package emit_test

import (
	"math/rand"
	"slices"
	"testing"

	"grommet/api"
	"grommet/emit"
	"grommet/graph"
	"grommet/rows"
)

// The rules that hold everywhere

// spoilRows writes into a list of rows, and behind its end.
func spoilRows(l []api.Row) {
	all := l[:cap(l)]
	for i := range all {
		all[i] = api.Row{Col: 99, Text: "spoilt", At: 99}
	}
}

// spoilGraph writes into a graph's lists, and behind their ends.
func spoilGraph(g api.Graph) {
	for _, n := range g.Nodes {
		all := n.Kids[:cap(n.Kids)]
		for i := range all {
			all[i] = -99
		}
	}
	nodes := g.Nodes[:cap(g.Nodes)]
	for i := range nodes {
		nodes[i] = api.Node{Kind: 99}
	}
}

func TestAnswersAreTheCallersOwn(t *testing.T) {
	draw := rand.New(rand.NewSource(8))
	for range 2000 {
		next := drawnTree(draw, 4, "a", "x")
		kept := copiedTree(next)
		l, e := emit.Rows(next)
		first := slices.Clone(l)
		spoilRows(l)
		if again, e2 := emit.Rows(next); !rows.Same(again, first) || e2 != e {
			t.Fatalf("Rows(%s): %s, and then %s", shown(next), shown(first), shown(again))
		}
		emit.Text(next)
		emit.Dump([]api.Tree{next, next})
		if !sameTree(next, kept) {
			t.Fatalf("%s was written into: %s", shown(kept), shown(next))
		}
	}
	for range 2000 {
		g := drawnGraph(draw, 10)
		kept := copied(g)
		s, e := emit.Graph(g)
		if !graph.Same(g, kept) {
			t.Fatalf("%s was written into: %s", shown(kept), shown(g))
		}
		if e != api.OK {
			continue
		}
		got, _ := emit.Read(s)
		first := copied(got)
		// Each list is its own.
		for i := range got.Nodes {
			other := copied(got)
			all := got.Nodes[i].Kids[:cap(got.Nodes[i].Kids)]
			for k := range all {
				all[k] = -99
			}
			other.Nodes[i].Kids = slices.Clone(got.Nodes[i].Kids)
			if !graph.Same(got, other) {
				t.Fatalf("of %s the list of %d is another one's, too", shown(first), i)
			}
		}
		spoilGraph(got)
		if again, f := emit.Read(s); !graph.Same(again, first) || f != (api.Fault{}) {
			t.Fatalf("Read(%.999q): %s, and then %s", s, shown(first), shown(again))
		}
	}
}

func TestNothingHandedInIsKept(t *testing.T) {
	next := read(t, "{a: [5, &x b], c: *x}")
	l, _ := emit.Rows(next)
	want := "a:\n  - 5\n  - &x b\nc: *x\n"
	next.Kids[1].Kids[0] = leaf("spoilt")
	next.Kids[2] = leaf("spoilt")
	if got := rows.Write(l); got != want {
		t.Error(got)
	}
	documents := []api.Tree{leaf("a"), leaf("b")}
	s, _ := emit.Dump(documents)
	documents[0] = leaf("spoilt")
	if s != "a\n---\nb\n" {
		t.Error(s)
	}
	// Lists that are longer than they look are not written into.
	full := []api.Tree{leaf("a"), leaf("b"), leaf("c")}
	emit.Dump(full[:1])
	emit.Text(list(full[:2]...))
	emit.Text(tree(api.Seq, "", full[:2]...))
	if full[1].Text != "b" || full[2].Text != "c" {
		t.Error(full)
	}
}

func TestListsThatAreNilOrEmpty(t *testing.T) {
	for _, kind := range []int{api.Null, api.Seq, api.Map} {
		a, e := emit.Text(api.Tree{Kind: kind, Anchor: "x", Kids: []api.Tree{}})
		b, e2 := emit.Text(api.Tree{Kind: kind, Anchor: "x", Kids: make([]api.Tree, 0, 4)})
		want, e3 := emit.Text(api.Tree{Kind: kind, Anchor: "x"})
		if a != want || b != want || e != api.OK || e2 != api.OK || e3 != api.OK {
			t.Error(kind, a, b, want)
		}
	}
	for _, l := range [][]api.Tree{nil, {}, make([]api.Tree, 0, 4)} {
		if s, e := emit.Dump(l); s != "" || e != api.OK {
			t.Error(s, e)
		}
	}
	g := of(api.Node{Kind: api.Seq, Kids: []int{1, 2}}, api.Node{Kind: api.Str, Text: "a", Kids: []int{}}, api.Node{Kind: api.Map, Kids: make([]int, 0, 4)})
	if s, e := emit.Graph(g); s != "- a\n- {}\n" || e != api.OK {
		t.Error(s, e)
	}
}

func TestTheSameCallsHaveTheSameAnswers(t *testing.T) {
	draw := rand.New(rand.NewSource(9))
	for range 300 {
		next, g := drawnTree(draw, 4, "a", "x"), drawnGraph(draw, 12)
		text, e := emit.Text(next)
		ofGraph, e2 := emit.Graph(g)
		emit.Text(api.Tree{})
		emit.Graph(api.Graph{})
		emit.Read("[")
		emit.Dump([]api.Tree{{}})
		if again, e3 := emit.Text(next); again != text || e3 != e {
			t.Fatalf("%.999q, %v, and then %.999q, %v", text, e, again, e3)
		}
		if again, e3 := emit.Graph(g); again != ofGraph || e3 != e2 {
			t.Fatalf("%.999q, %v, and then %.999q, %v", ofGraph, e2, again, e3)
		}
	}
}
