package emit_test

import (
	"math/rand"
	"slices"
	"strings"
	"testing"

	"grommet/api"
	"grommet/emit"
	"grommet/graph"
	"grommet/lay"
)

var null = api.Node{Kind: api.Null}

func boolean(text string) api.Node { return api.Node{Kind: api.Bool, Text: text} }
func number(text string) api.Node  { return api.Node{Kind: api.Int, Text: text} }
func str(text string) api.Node     { return api.Node{Kind: api.Str, Text: text} }
func seq(kids ...int) api.Node     { return api.Node{Kind: api.Seq, Kids: kids} }
func dict(kids ...int) api.Node    { return api.Node{Kind: api.Map, Kids: kids} }

// of is a graph whose Root is the first node.
func of(nodes ...api.Node) api.Graph { return api.Graph{Nodes: nodes} }

// circle are so many Seqs, each in the one ahead of it, and the first one in the last one.
func circle(count int) api.Graph {
	g := api.Graph{}
	for i := range count {
		g.Nodes = append(g.Nodes, seq((i+1)%count))
	}
	return g
}

// agreeGraph holds Graph against the words written a second time, and asks what follows; it tells its error.
func agreeGraph(t *testing.T, g api.Graph) api.Errno {
	t.Helper()
	want, why := wantGraph(g)
	s, e := emit.Graph(g)
	if s != want || e != why {
		t.Fatalf("Graph(%s): %.999q, %v, not %.999q, %v", shown(g), s, e, want, why)
	}
	if e == api.OK {
		checkReadAgain(t, g, s)
	}
	return e
}

func checkGraph(t *testing.T, g api.Graph, want string) {
	t.Helper()
	draw := rand.New(rand.NewSource(int64(len(want))))
	for range 4 {
		if s, e := emit.Graph(g); s != want || e != api.OK {
			t.Fatalf("Graph(%s):\n%s, %v, not\n%s", shown(g), s, e, want)
		}
		agreeGraph(t, g)
		g = moved(draw, g)
	}
}

func checkGraphRefused(t *testing.T, g api.Graph, why api.Errno) {
	t.Helper()
	if s, e := emit.Graph(g); s != "" || e != why {
		t.Fatalf("Graph(%s): %.99q, %v, not %v", shown(g), s, e, why)
	}
	if e := agreeGraph(t, g); e != why {
		t.Fatalf("Graph(%s): %v, not %v", shown(g), e, why)
	}
}

// agreeRead holds Read against the words written a second time, and asks what follows; it tells its error.
func agreeRead(t *testing.T, s string) api.Errno {
	t.Helper()
	want, why := wantRead(s)
	g, f := emit.Read(s)
	if !graph.Same(g, want) || f != why {
		t.Fatalf("Read(%.999q): %s, %v, not %s, %v", s, shown(g), f, shown(want), why)
	}
	if f.Why == api.OK {
		agreeGraph(t, g)
	}
	return f.Why
}

// checkRead asks for a text's graph.
func checkRead(t *testing.T, s string, want api.Graph) {
	t.Helper()
	if g, f := emit.Read(s); !graph.Same(g, want) || f != (api.Fault{}) {
		t.Fatalf("Read(%.999q): %s, %v, not %s", s, shown(g), f, shown(want))
	}
	agreeRead(t, s)
}

func checkReadRefused(t *testing.T, s string, why api.Errno, at int) {
	t.Helper()
	if g, f := emit.Read(s); len(g.Nodes) != 0 || g.Root != 0 || f != (api.Fault{Why: why, At: at}) {
		t.Fatalf("Read(%.99q): %s, %v, not {%v %d}", s, shown(g), f, why, at)
	}
	agreeRead(t, s)
}

// P15.1: a graph's text

func TestGraphs(t *testing.T) {
	a, b, five := str("a"), str("b"), number("5")
	for _, x := range []struct {
		g    api.Graph
		want string
	}{
		{of(null), "null\n"}, {of(str("5")), "\"5\"\n"}, {of(str("a\n b\n")), "|\n  a\n   b\n"}, {of(seq()), "[]\n"}, {of(dict()), "{}\n"}, {of(seq(1, 2), a, five), "- a\n- 5\n"}, {of(dict(1, 2, 3, 4), b, null, a, five), "b: null\na: 5\n"}, {of(dict(1, 2), a, seq(3, 4), five, dict(5, 6), a, b), "a:\n  - 5\n  - a: b\n"},
		// What is shared has an Anchor.
		{of(seq(0)), "&a1\n- *a1\n"}, {of(seq(0, 1), five), "&a1\n- *a1\n- 5\n"}, {of(dict(1, 0), a), "&a1\na: *a1\n"}, {of(seq(1, 1), a), "- &a1 a\n- *a1\n"}, {of(seq(1, 1), str("a\n\n")), "- &a1 |+\n  a\n\n- *a1\n"}, {of(dict(1, 2, 3, 2), a, seq(4), b, five), "a: &a1\n  - 5\nb: *a1\n"}, {of(dict(1, 2, 3, 2), a, seq(), b), "a: &a1 []\nb: *a1\n"}, {of(seq(1), seq(2, 1), seq(2, 1, 0)), "&a1\n- &a2\n  - &a3\n    - *a3\n    - *a2\n    - *a1\n  - *a2\n"}, {of(seq(1, 1), dict(2, 3), a, five), "- &a1\n  a: 5\n- *a1\n"},
	} {
		checkGraph(t, x.g, x.want)
	}
	// What is not reached is not written.
	checkGraph(t, api.Graph{Nodes: []api.Node{seq(1, 1), seq(2), a, dict(4, 1), b}, Root: 1}, "- a\n")
}

func TestGraphsThatAreRefused(t *testing.T) {
	a, five := str("a"), number("5")
	// Layer 14's errors.
	for _, g := range []api.Graph{
		{}, {Nodes: []api.Node{null}, Root: 1}, {Nodes: []api.Node{null}, Root: -1}, of(seq(1)), of(seq(-1)), of(api.Node{Kind: api.Alias, Text: "a"}), of(api.Node{}), of(number("05")), of(str("\xff")), of(dict(1), a), of(dict(1, 2, 1, 2), a, five), of(dict(1, 2, 3, 2), a, five, a), of(dict(1, 2), seq(), a), of(dict(1, 1), a), of(api.Node{Kind: api.Str, Text: "a", Kids: []int{0}}), of(slices.Repeat([]api.Node{null}, 4097)...), of(null, seq(9)),
	} {
		checkGraphRefused(t, g, api.ErrArg)
	}
	checkGraphRefused(t, circle(65), api.ErrDeep)
	checkGraphRefused(t, of(append(circle(65).Nodes[:64], seq())...), api.ErrDeep)
	kids := make([]int, 4096)
	for i := range kids {
		kids[i] = 1
	}
	checkGraphRefused(t, of(seq(kids...), null), api.ErrMany)
	checkGraphRefused(t, of(seq(kids...), str(strings.Repeat("a", 1<<17))), api.ErrMany)
	// It is told ahead of Text's errors.
	longKey := str(strings.Repeat("a", 257))
	checkGraphRefused(t, of(dict(1, 2), longKey, seq(9)), api.ErrArg)
	deep := circle(65)
	deep.Nodes[64] = seq(0, 65)
	deep.Nodes = append(deep.Nodes, dict(66, 67), longKey, null)
	checkGraphRefused(t, deep, api.ErrDeep)
	// Text's.
	checkGraphRefused(t, of(dict(1, 2), longKey, five), api.ErrMany)
	checkGraphRefused(t, of(seq(1, 1), dict(2, 3), longKey, five), api.ErrMany)
	// What is not reached is not asked for it.
	checkGraph(t, of(null, dict(2, 0), longKey), "null\n")
	// What may be.
	if e := agreeGraph(t, circle(64)); e != api.OK {
		t.Error(e)
	}
	if e := agreeGraph(t, of(seq(kids[1:]...), null)); e != api.OK {
		t.Error(e)
	}
	if e := agreeGraph(t, of(dict(1, 2), str(strings.Repeat("a", 256)), five)); e != api.OK {
		t.Error(e)
	}
}

func TestLongTextsOfGraphs(t *testing.T) {
	for _, more := range []int{-1, 0, 1, 2} {
		for _, g := range []api.Graph{of(str(strings.Repeat("a", 65535+more))), of(seq(1, 1, 0), str(strings.Repeat("a", 65536-4-6-1-6-6+more)))} {
			if more > 0 {
				checkGraphRefused(t, g, api.ErrMany)
				continue
			}
			if s, e := emit.Graph(g); len(s) != 65536+more || e != api.OK {
				t.Errorf("%d bytes, %v, not %d", len(s), e, 65536+more)
			}
			agreeGraph(t, g)
		}
	}
}

func TestDrawnGraphs(t *testing.T) {
	draw := rand.New(rand.NewSource(4))
	count := map[api.Errno]int{}
	for n := range 30000 {
		g := drawnGraph(draw, 1+n%20)
		if n%4 == 0 {
			g = turned(draw, g)
		}
		count[agreeGraph(t, g)]++
	}
	if count[api.OK] < 20000 || count[api.ErrArg] < 1000 || count[api.ErrMany] < 10 || len(count) != 3 {
		t.Error(count)
	}
}

// P15.2

func TestRead(t *testing.T) {
	a, b, five := str("a"), str("b"), number("5")
	for _, x := range []struct {
		s    string
		want api.Graph
	}{
		// No document, and one that has nothing.
		{"", of(null)}, {"\n\n", of(null)}, {"# a\n  # b", of(null)}, {"---", of(null)}, {"---\n", of(null)}, {"# a\n---\n\n", of(null)}, {"~", of(null)},
		{"5", of(five)}, {"'5'\n", of(str("5"))}, {"[]", of(seq())}, {"- a\n- 5", of(seq(1, 2), a, five)}, {"- a\r\n- 5\r\n", of(seq(1, 2), a, five)}, {"---\n# n\na: b\n", of(dict(1, 2), a, b)}, {"k:\n  - 5\n  - a: b\n", of(dict(1, 2), str("k"), seq(3, 4), five, dict(5, 6), a, b)}, {"{5: [a, {b: ~}]}", of(dict(1, 2), five, seq(3, 4), a, dict(5, 6), b, null)}, {"|\n  a\n\n   b\n", of(str("a\n\n b\n"))}, {"a: >-\n  a\n  b\n", of(dict(1, 2), a, str("a b"))},
		// Aliases, of names that stand ahead, and around.
		{"&x [*x]", of(seq(0))}, {"&x\n- *x\n- 5\n", of(seq(0, 1), five)}, {"a: &x\n  - 5\nb: *x\n", of(dict(1, 2, 4, 2), a, seq(3), five, b)}, {"- &x a\n- *x\n- &x b\n- *x\n", of(seq(1, 1, 2, 2), a, b)}, {"- &x a\n- &y 5\n", of(seq(1, 2), a, five)},
		{strings.Repeat("- ", 64) + "a", of(append(circle(65).Nodes[:64], a)...)},
		{strings.Repeat("# a\n", 1<<14), of(null)},
	} {
		checkRead(t, x.s, x.want)
	}
}

func TestReadOfTextsThatAreRefused(t *testing.T) {
	for _, x := range []struct {
		s   string
		why api.Errno
		at  int
	}{
		// Layer 2's.
		{strings.Repeat("a", 65537), api.ErrMany, 0}, {strings.Repeat("\xff", 65537), api.ErrMany, 0}, {"a\n\xff", api.ErrUtf, 2}, {"a: \x01", api.ErrUtf, 1}, {"a:\n\tb", api.ErrTab, 2},
		// Layer 11's.
		{"a\n---\nb", api.ErrMany, 0}, {"---\n---\n", api.ErrMany, 0}, {"a\n---\n", api.ErrMany, 0}, {strings.Repeat("---\n", 64), api.ErrMany, 0}, {strings.Repeat("---\n", 65), api.ErrMany, 65}, {"a\n" + strings.Repeat("---\n", 64), api.ErrMany, 65},
		// Layer 10's, also of a document behind the first one.
		{"- a\nb", api.ErrForm, 2}, {"a: 5\n- b", api.ErrForm, 2}, {"- a\n  - b", api.ErrForm, 2}, {"a:\n    b: 5\n  c: 5", api.ErrTab, 3}, {"  - a\n- b", api.ErrTab, 2}, {"a: !!int b", api.ErrTag, 1}, {"!!map\n- a", api.ErrTag, 1}, {strings.Repeat("a", 257) + ": 5", api.ErrMany, 1}, {"a\n---\n- a\nb", api.ErrForm, 4}, {strings.Repeat("- ", 64) + "- a", api.ErrDeep, 1}, {strings.Repeat("- a\n", 4096), api.ErrMany, 0},
		// Layers 7's, 8's and 9's.
		{"- 'a\n", api.ErrEnd, 1}, {`"\q"`, api.ErrForm, 1}, {"a: |\n    b\n   c", api.ErrTab, 3}, {"\n[a", api.ErrEnd, 2}, {"[a]]", api.ErrForm, 1}, {"a: " + strings.Repeat("[", 65), api.ErrDeep, 1}, {"*", api.ErrEnd, 1},
		// Layer 12's, without a line.
		{"*x", api.ErrName, 0}, {"- a\n- *x\n", api.ErrName, 0}, {"- *x\n- &x a\n", api.ErrName, 0}, {"[&y a, *x]", api.ErrName, 0}, {"a: 5\nb: 5\na: b\n", api.ErrThere, 0}, {"- {5: a, 5: b}", api.ErrThere, 0}, {"~: a\nnull: b", api.ErrThere, 0}, {"a: b\n'a': b", api.ErrThere, 0},
		// The first of these, in the order of the text.
		{"- *x\n- {a: 5, a: 5}\n", api.ErrName, 0}, {"- {a: 5, a: 5}\n- *x\n", api.ErrThere, 0}, {"a: *x\na: 5\n", api.ErrName, 0}, {"a: 5\na: *x\n", api.ErrThere, 0},
		// Those of layers beneath come ahead.
		{"- *x\n- [a\n", api.ErrEnd, 2}, {"a: 5\na: 5\n- b\n", api.ErrForm, 3}, {"*x\n---\n*y\n", api.ErrMany, 0},
	} {
		checkReadRefused(t, x.s, x.why, x.at)
	}
	// A key twice is two keys, if they have not one kind.
	checkRead(t, "5: a\n'5': b\n", of(dict(1, 2, 3, 4), number("5"), str("a"), str("5"), str("b")))
}

func TestReadOfDrawnTexts(t *testing.T) {
	draw := rand.New(rand.NewSource(5))
	count := map[api.Errno]int{}
	for range 60000 {
		count[agreeRead(t, drawnRowText(draw))]++
	}
	for _, why := range []api.Errno{api.OK, api.ErrForm, api.ErrEnd, api.ErrMany, api.ErrUtf, api.ErrTab, api.ErrName, api.ErrThere, api.ErrTag} {
		if count[why] < 100 {
			t.Errorf("only %d of %v", count[why], why)
		}
	}
}

func TestReadOfTextsThatAreWrittenAndTurned(t *testing.T) {
	draw := rand.New(rand.NewSource(6))
	count := map[bool]int{}
	for n := range 20000 {
		s, e := emit.Graph(drawnGraph(draw, 1+n%8))
		if e != api.OK {
			continue
		}
		at := draw.Intn(len(s))
		count[agreeRead(t, s[:at]+one(draw, "", " ", "\n", "-", ": ", "*a1", "&a1 ", "\n---\n", "\t")+s[at+draw.Intn(2):]) == api.OK]++
	}
	if count[true] < 2000 || count[false] < 2000 {
		t.Error(count)
	}
}

// P15.4

// checkReadAgain asks that a graph's text is read as its Canon, and written again to the same text.
func checkReadAgain(t *testing.T, g api.Graph, s string) {
	t.Helper()
	canon, e := graph.Canon(g)
	again, f := emit.Read(s)
	if !graph.Same(again, canon) || e != api.OK || f != (api.Fault{}) {
		t.Fatalf("Read(%.999q): %s, %v, not %s, %v", s, shown(again), f, shown(canon), e)
	}
	if twice, e := emit.Graph(again); twice != s || e != api.OK {
		t.Fatalf("Graph(%s): %.999q, %v, not %.999q", shown(again), twice, e, s)
	}
}

func TestGraphsAreReadAsTheyWereWritten(t *testing.T) {
	for _, g := range []api.Graph{
		of(str("")), of(str("\n")), of(str("a\n\n")), circle(1), circle(2), circle(64), of(seq(1, 2, 1), str("a\n"), dict(3, 0, 4, 1), str("\n"), null), {Nodes: []api.Node{str("a"), null, dict(0, 2, 3, 4), number("5"), seq(4, 2, 1)}, Root: 2}, of(dict(1, 2, 3, 4), str("b"), number("0"), str("a"), seq()),
	} {
		s, e := emit.Graph(g)
		if e != api.OK {
			t.Fatalf("Graph(%s): %v", shown(g), e)
		}
		checkReadAgain(t, g, s)
	}
}

func TestWhatIsReadIsWrittenAsItIsTrimmed(t *testing.T) {
	draw := rand.New(rand.NewSource(7))
	full := 0
	for n := range 20000 {
		next := drawnTree(draw, n%6, "x", "y")
		trim, e := lay.Trim(next)
		if e != api.OK {
			continue
		}
		full++
		s, _ := emit.Text(next)
		g, f := emit.Read(s)
		if f != (api.Fault{}) {
			t.Fatalf("Read(%.999q): %v", s, f)
		}
		want, _ := emit.Text(trim)
		if got, e := emit.Graph(g); got != want || e != api.OK {
			t.Fatalf("%.999q: %.999q, %v, not %.999q", s, got, e, want)
		}
	}
	if full < 5000 {
		t.Error(full)
	}
}
