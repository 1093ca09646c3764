package emit_test

import (
	"math/rand"
	"slices"
	"strings"
	"testing"

	"grommet/api"
	"grommet/emit"
	"grommet/load"
)

// agreeDump holds Dump against the words written a second time, and asks what follows; it tells its error.
func agreeDump(t *testing.T, l []api.Tree) api.Errno {
	t.Helper()
	want, why := wantDump(l)
	s, e := emit.Dump(l)
	if s != want || e != why {
		t.Fatalf("Dump(%s): %.999q, %v, not %.999q, %v", shown(l), s, e, want, why)
	}
	if e == api.OK {
		checkDumpLoaded(t, l, s)
	}
	return e
}

func checkDump(t *testing.T, l []api.Tree, want string) {
	t.Helper()
	if s, e := emit.Dump(l); s != want || e != api.OK {
		t.Fatalf("Dump(%s):\n%s, %v, not\n%s", shown(l), s, e, want)
	}
	agreeDump(t, l)
}

func checkDumpRefused(t *testing.T, l []api.Tree, why api.Errno) {
	t.Helper()
	if s, e := emit.Dump(l); s != "" || e != why {
		t.Fatalf("Dump(%.200s): %.99q, %v, not %v", shown(l), s, e, why)
	}
	if e := agreeDump(t, l); e != why {
		t.Fatalf("Dump(%.200s): %v, not %v", shown(l), e, why)
	}
}

// P15.1: several documents

func TestDump(t *testing.T) {
	null, a := tree(api.Null, ""), leaf("a")
	for _, x := range []struct {
		l    []api.Tree
		want string
	}{
		{nil, ""}, {[]api.Tree{}, ""}, {[]api.Tree{a}, "a\n"}, {[]api.Tree{null}, "null\n"}, {[]api.Tree{a, null, a}, "a\n---\nnull\n---\na\n"}, {[]api.Tree{null, null}, "null\n---\nnull\n"},
		{[]api.Tree{list(a, a), pairs(a, list()), anchored("x", list(alias("x")))}, "- a\n- a\n---\na: []\n---\n&x\n- *x\n"},
		// Texts with empty lines, and with what looks like a marker.
		{[]api.Tree{leaf("\n"), leaf("\n\n"), leaf("")}, "\"\\n\"\n---\n\"\\n\\n\"\n---\n\"\"\n"}, {[]api.Tree{leaf("\n\na\n\n"), leaf("---"), leaf("---\n")}, "|+\n\n\n  a\n\n---\n\"---\"\n---\n|\n  ---\n"},
		// Names are a document's own; an Alias alone is written, too.
		{[]api.Tree{anchored("x", a), anchored("x", a), alias("x")}, "&x a\n---\n&x a\n---\n*x\n"},
	} {
		checkDump(t, x.l, x.want)
	}
}

func TestDumpOfManyDocuments(t *testing.T) {
	a, long := leaf("a"), leaf(strings.Repeat("a", 1<<16))
	longKey, wrong := pairs(leaf(strings.Repeat("a", 257)), a), api.Tree{}
	for _, count := range []int{1, 2, 63, 64} {
		checkDump(t, slices.Repeat([]api.Tree{a}, count), strings.TrimSuffix(strings.Repeat("a\n---\n", count), "---\n"))
	}
	for _, count := range []int{65, 66, 128, 10000} {
		l := slices.Repeat([]api.Tree{a}, count)
		checkDumpRefused(t, l, api.ErrMany)
		// The first error of one of them is told ahead of how many there are.
		for _, at := range []int{0, 1, 63, 64, count - 1} {
			l[at] = wrong
			checkDumpRefused(t, l, api.ErrArg)
			l[at] = longKey
			checkDumpRefused(t, l, api.ErrMany)
			l[at] = a
		}
	}
	// The first one of these.
	for _, x := range []struct {
		l   []api.Tree
		why api.Errno
	}{
		{[]api.Tree{longKey, wrong}, api.ErrMany}, {[]api.Tree{wrong, longKey}, api.ErrArg}, {[]api.Tree{long, wrong}, api.ErrMany}, {[]api.Tree{wrong, long}, api.ErrArg}, {[]api.Tree{a, longKey, wrong}, api.ErrMany}, {[]api.Tree{a, a, wrong, long}, api.ErrArg}, {[]api.Tree{a, wrong}, api.ErrArg}, {[]api.Tree{a, long}, api.ErrMany},
	} {
		checkDumpRefused(t, x.l, x.why)
		checkDumpRefused(t, append(x.l, slices.Repeat([]api.Tree{a}, 64)...), x.why)
	}
}

func TestDumpOfLongTexts(t *testing.T) {
	long := func(count int) api.Tree { return leaf(strings.Repeat("a", count)) }
	for _, x := range []struct {
		l    []api.Tree // and one more document
		most int        // so many are a text of 65536 bytes
	}{
		{[]api.Tree{leaf("a")}, 65536 - 2 - 4 - 1}, {[]api.Tree{leaf("a"), leaf("a\n\n")}, 65536 - 2 - 4 - 8 - 4 - 1}, {[]api.Tree{long(65000)}, 65536 - 65001 - 4 - 1}, {slices.Repeat([]api.Tree{long(1000)}, 63), 65536 - 63*1005 - 1},
	} {
		for _, more := range []int{-1, 0, 1, 2, 5} {
			for _, isFirst := range []bool{false, true} {
				l := append(slices.Clone(x.l), long(x.most+more))
				if isFirst {
					slices.Reverse(l)
				}
				if more > 0 {
					checkDumpRefused(t, l, api.ErrMany)
					// Behind what is too long already an error is told, too.
					checkDumpRefused(t, append(l, api.Tree{}), api.ErrArg)
					checkDumpRefused(t, append(slices.Concat(l, l, l, l), api.Tree{}), api.ErrArg)
					continue
				}
				if s, e := emit.Dump(l); len(s) != 65536+more || e != api.OK {
					t.Fatalf("Dump(%.99s): %d bytes, %v", shown(l), len(s), e)
				}
				agreeDump(t, l)
			}
		}
	}
	// Each one may be as long as a text, but not two of them.
	checkDumpRefused(t, []api.Tree{long(65535), long(65535)}, api.ErrMany)
	checkDumpRefused(t, []api.Tree{long(65535), leaf("a")}, api.ErrMany)
	checkDumpRefused(t, []api.Tree{long(65536 - 2 - 4), leaf("a")}, api.ErrMany)
	checkDumpRefused(t, slices.Repeat([]api.Tree{long(65535)}, 100), api.ErrMany)
}

func TestDrawnDumps(t *testing.T) {
	draw := rand.New(rand.NewSource(3))
	count := map[api.Errno]int{}
	for n := range 12000 {
		l := make([]api.Tree, draw.Intn(1+n%6))
		if n%10 == 0 {
			l = make([]api.Tree, 60+draw.Intn(8))
		}
		for i := range l {
			l[i] = drawnTree(draw, draw.Intn(4), "a", "x")
			if draw.Intn(40) == 0 {
				l[i] = spoilt(draw, l[i])
			}
		}
		count[agreeDump(t, l)]++
	}
	if count[api.OK] < 8000 || count[api.ErrArg] < 500 || count[api.ErrMany] < 100 || len(count) != 3 {
		t.Error(count)
	}
}

// P15.5

// checkDumpLoaded asks that documents are loaded as they were dumped.
func checkDumpLoaded(t *testing.T, l []api.Tree, s string) {
	t.Helper()
	if again, f := load.Load(s); !slices.EqualFunc(again, l, sameTree) || f != (api.Fault{}) {
		t.Fatalf("%.999q: %s, %v, not %s", s, shown(again), f, shown(l))
	}
}

func TestDocumentsThatAreDumpedAreLoaded(t *testing.T) {
	null := tree(api.Null, "")
	for _, l := range [][]api.Tree{
		{}, {null}, {null, null, null}, {leaf("")}, {leaf("\n\n\n"), leaf("\n")}, {leaf("a\n\n\n"), leaf("\n\na")}, {leaf("# a\n\n"), leaf("---\n---\n"), leaf("# b")}, {list(leaf("a\n\n")), null, pairs(leaf("---"), leaf("a\n---\n\n"))}, {alias("x"), list(), pairs(), anchored("x", null)}, slices.Repeat([]api.Tree{null}, 64), slices.Repeat([]api.Tree{nested(64, leaf("a\n\n"))}, 64),
	} {
		s, e := emit.Dump(l)
		if e != api.OK {
			t.Fatalf("Dump(%s): %v", shown(l), e)
		}
		checkDumpLoaded(t, l, s)
		again, _ := load.Load(s)
		checkDump(t, again, s)
	}
}
