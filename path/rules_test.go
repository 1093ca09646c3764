package path_test

import (
	"math/rand"
	"reflect"
	"slices"
	"testing"

	"grommet/api"
	"grommet/graph"
	"grommet/path"
)

// The rules that hold everywhere

// spoil writes into a list of steps, and behind its end.
func spoil(l []path.Step) {
	all := l[:cap(l)]
	for i := range all {
		all[i] = path.Step{Key: "spoilt", Index: -99}
	}
}

func TestAnswersAreTheCallersOwn(t *testing.T) {
	draw := rand.New(rand.NewSource(7))
	for range 2000 {
		s, _ := path.Format(drawnPath(draw, 12))
		l, f := path.Parse(s)
		kept := slices.Clone(l)
		spoil(l)
		if again, f2 := path.Parse(s); !slices.Equal(again, kept) || f2 != f {
			t.Fatalf("Parse(%.999q): %s, and then %s", s, shown(kept), shown(again))
		}
	}
}

func TestNothingHandedInIsWrittenInto(t *testing.T) {
	draw := rand.New(rand.NewSource(8))
	for n := range 2000 {
		g := drawnGraph(draw, 1+n%12)
		a, b := drawnWay(draw, g, 8), drawnPath(draw, 8)
		if n%2 == 0 {
			b = spoiltPath(draw, a)
		}
		// Fields that do not count stay, too, and so does what lies behind a list's end.
		for i := range a {
			a[i].Index += draw.Intn(2)
			b = append(b, path.Step{Key: "z", Index: i, At: true})
		}
		b = append(b, b...)[:len(b)]
		keptG, keptA, keptB := copied(g), slices.Clone(a[:cap(a)]), slices.Clone(b[:cap(b)])
		for _, l := range [][]path.Step{a, b} {
			path.Format(l)
			path.Get(g, l)
			path.Same(l, a)
			path.Same(b, l)
		}
		if !graph.Same(g, keptG) || !reflect.DeepEqual(a[:cap(a)], keptA) || !reflect.DeepEqual(b[:cap(b)], keptB) {
			t.Fatalf("written into: %s, %s, %s", shown(g), shown(a), shown(b))
		}
	}
}

func TestListsThatAreNilOrEmpty(t *testing.T) {
	for _, l := range [][]path.Step{nil, {}, make([]path.Step, 0, 4)} {
		checkFormat(t, l, "")
		checkSame(t, l, nil, true)
		checkSame(t, l, []path.Step{}, true)
		checkGet(t, of(seq(0)), l, 0)
	}
	for _, kids := range [][]int{nil, {}, make([]int, 0, 4)} {
		for _, kind := range []int{api.Null, api.Seq, api.Map} {
			g := of(api.Node{Kind: kind, Kids: kids})
			checkGet(t, g, nil, 0)
			why := map[int]api.Errno{api.Null: api.ErrKind, api.Seq: api.ErrNone, api.Map: api.ErrKind}[kind]
			checkNone(t, g, way(0), why)
		}
	}
	checkNone(t, api.Graph{Nodes: []api.Node{}}, nil, api.ErrArg)
}

func TestTheSameCallsHaveTheSameAnswers(t *testing.T) {
	draw := rand.New(rand.NewSource(9))
	for n := range 1000 {
		g := drawnGraph(draw, 1+n%12)
		l := drawnWay(draw, g, 8)
		s, e := path.Format(l)
		at, why := path.Get(g, l)
		steps, f := path.Parse(s)
		path.Parse(turnedText(draw, s))
		path.Get(turned(draw, g), spoiltPath(draw, l))
		s2, e2 := path.Format(slices.Clone(l))
		at2, why2 := path.Get(copied(g), l)
		steps2, f2 := path.Parse(s)
		if s != s2 || e != e2 || at != at2 || why != why2 || !slices.Equal(steps, steps2) || f != f2 {
			t.Fatalf("%s, %s: %q, %v, %d, %v, and then %q, %v, %d, %v", shown(g), shown(l), s, e, at, why, s2, e2, at2, why2)
		}
	}
}
