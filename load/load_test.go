package load_test

import (
	"fmt"
	"math"
	"math/rand"
	"reflect"
	"slices"
	"strings"
	"testing"

	"grommet/api"
	"grommet/flow"
	"grommet/load"
	"grommet/rows"
)

var null = api.Tree{Kind: api.Null}

func row(col int, text string, at int) api.Row { return api.Row{Col: col, Text: text, At: at} }

func str(text string) api.Tree { return api.Tree{Kind: api.Str, Text: text} }

// lines are a text's rows.
func lines(t *testing.T, text string) []api.Row {
	t.Helper()
	l, f := rows.Read(text)
	if f != (api.Fault{}) {
		t.Fatalf("%.999q: %v", text, f)
	}
	return l
}

// shown is the beginning of what is told of a value.
func shown(v any) string {
	s := fmt.Sprintf("%+v", v)
	return s[:min(len(s), 999)]
}

func sameParts(a, b [][]api.Row) bool {
	return slices.EqualFunc(a, b, rows.Same)
}

func sameTrees(a, b []api.Tree) bool {
	return slices.EqualFunc(a, b, flow.Same)
}

func checkLoad(t *testing.T, s string, want ...api.Tree) {
	t.Helper()
	if got, f := load.Load(s); !sameTrees(got, want) || f != (api.Fault{}) {
		t.Fatalf("Load(%.999q): %s, %v, not %s", s, shown(got), f, shown(want))
	}
}

func checkFault(t *testing.T, s string, why api.Errno, at int) {
	t.Helper()
	if got, f := load.Load(s); len(got) != 0 || f != (api.Fault{Why: why, At: at}) {
		t.Fatalf("Load(%.999q): %s, %v, not {%v %d}", s, shown(got), f, why, at)
	}
}

func checkOne(t *testing.T, s string, want api.Tree) {
	t.Helper()
	if got, f := load.One(s); !flow.Same(got, want) || f != (api.Fault{}) {
		t.Fatalf("One(%.999q): %s, %v, not %s", s, shown(got), f, shown(want))
	}
}

func checkOneFault(t *testing.T, s string, why api.Errno, at int) {
	t.Helper()
	if got, f := load.One(s); !reflect.DeepEqual(got, api.Tree{}) || f != (api.Fault{Why: why, At: at}) {
		t.Fatalf("One(%.999q): %s, %v, not {%v %d}", s, shown(got), f, why, at)
	}
}

// means are the trees that texts of one line mean.
func means(t *testing.T, texts ...string) []api.Tree {
	t.Helper()
	var trees []api.Tree
	for _, text := range texts {
		next, f := flow.Whole(text)
		if f != (api.Fault{}) {
			t.Fatalf("%q: %v", text, f)
		}
		trees = append(trees, next)
	}
	return trees
}

func agreeParts(t *testing.T, l []api.Row) {
	t.Helper()
	want := wantParts(l)
	if got := load.Parts(l); !sameParts(got, want) {
		t.Fatalf("Parts(%s): %s, not %s", shown(l), shown(got), shown(want))
	}
}

// agree holds Load and One against the words written a second time; it tells the fault.
func agree(t *testing.T, s string) api.Fault {
	t.Helper()
	trees, fault := wantLoad(s)
	if got, f := load.Load(s); !sameTrees(got, trees) || f != fault {
		t.Fatalf("Load(%.9999q): %s, %v, not %s, %v", s, shown(got), f, shown(trees), fault)
	}
	only, onlyFault := wantOne(s)
	if got, f := load.One(s); !flow.Same(got, only) || f != onlyFault {
		t.Fatalf("One(%.9999q): %s, %v, not %s, %v", s, shown(got), f, shown(only), onlyFault)
	}
	return fault
}

// P11.1: Parts

func TestParts(t *testing.T) {
	for _, c := range []struct {
		text string
		want [][]int // the documents' lines
	}{
		{"a\n---\nb", [][]int{{1}, {3}}},
		// No markers.
		{"", nil},
		{"\n", nil},
		{"\n  \n# n\n   # n", nil},
		{"a", [][]int{{1}}},
		{"a:\n  - b\n\nc: d\n# n\n", [][]int{{1, 2, 3, 4, 5}}},
		{"\n# n\na\n\n", [][]int{{1, 2, 3, 4}}},
		{"  # n\n  a", [][]int{{1, 2}}},
		// Rows ahead of the first one.
		{"---", [][]int{{}}},
		{"\n---", [][]int{{}}},
		{"# n\n\n  # n\n---\n", [][]int{{}}},
		{"#---\n---\na", [][]int{{3}}},
		{"\n---\na", [][]int{{3}}},
		{"\n# n\na\n\n---", [][]int{{1, 2, 3, 4}, {}}},
		{"\na\n\n---\n\nb\n\n", [][]int{{1, 2, 3}, {5, 6, 7}}},
		{"a\n# n\n---", [][]int{{1, 2}, {}}},
		{"# n\na\n---", [][]int{{1, 2}, {}}},
		// Several in a row, with empty rows and without, and at the end.
		{"---\n---", [][]int{{}, {}}},
		{"---\n---\n---\n", [][]int{{}, {}, {}}},
		{"a\n---\n---\nb", [][]int{{1}, {}, {4}}},
		{"a\n---\n\n# n\n---\nb", [][]int{{1}, {3, 4}, {6}}},
		{"---\n\n---\n", [][]int{{2}, {}}},
		{"---\na\n---\n", [][]int{{2}, {}}},
		{"---\na\n---\n\n# n\n  \n", [][]int{{2}, {4, 5, 6}}},
		{"---\n\n", [][]int{{2}}},
		{"---\n# n", [][]int{{2}}},
		{"---\na\nb\n---\nc\n---\nd\ne\nf", [][]int{{2, 3}, {5}, {7, 8, 9}}},
		// As layer 2 reads lines.
		{"a  \r\n---  \r\n  b\r\n", [][]int{{1}, {3}}},
	} {
		l := lines(t, c.text)
		var want [][]api.Row
		for _, part := range c.want {
			var list []api.Row
			for _, line := range part {
				list = append(list, l[line-1])
			}
			want = append(want, list)
		}
		if got := load.Parts(l); !sameParts(got, want) {
			t.Errorf("Parts of %q: %v, not %v", c.text, got, want)
		}
		agreeParts(t, l)
	}
}

func TestRowsThatAreNoMarkers(t *testing.T) {
	a, b := row(0, "a", 1), row(0, "b", 3)
	for _, col := range []int{math.MinInt, -3, -1, 1, 2, 3, 65536, math.MaxInt} {
		l := []api.Row{a, row(col, "---", 2), b}
		if got := load.Parts(l); !sameParts(got, [][]api.Row{l}) {
			t.Errorf("the column %d: %v", col, got)
		}
		// It is a row like any other, and so a document if it stands alone.
		if got := load.Parts(l[1:2]); !sameParts(got, [][]api.Row{l[1:2]}) {
			t.Errorf("the column %d alone: %v", col, got)
		}
	}
	for _, text := range []string{"-", "--", "----", "-----", "------", "--- a", "--- # n", "---# n", "--- #", "---\t", "---a", "---:", "--- ", " ---", "- ---", "- - -", "...", "+++", "___", "\u2014", "\u2212\u2212\u2212", "'---'", "\"---\"", "[---]", "--\xad"} {
		l := []api.Row{a, row(0, text, 2), b}
		if got := load.Parts(l); !sameParts(got, [][]api.Row{l}) {
			t.Errorf("%q: %v", text, got)
		}
		if got := load.Parts(l[1:2]); !sameParts(got, [][]api.Row{l[1:2]}) {
			t.Errorf("%q alone: %v", text, got)
		}
	}
	// A row that begins with the note's sign is empty, whatever stands behind.
	for _, text := range []string{"", "#", "# n", "#---", "#a", "##", "# \xff"} {
		for _, col := range []int{math.MinInt, -1, 0, 1, math.MaxInt} {
			l := []api.Row{row(col, text, 1), row(0, "---", 2), b}
			if got := load.Parts(l); !sameParts(got, [][]api.Row{{b}}) {
				t.Errorf("%q at %d: %v", text, col, got)
			}
			if got := load.Parts(l[:1]); len(got) != 0 {
				t.Errorf("%q at %d alone: %v", text, col, got)
			}
		}
	}
}

func TestRowsAreEmptyAsLayer2Tells(t *testing.T) {
	for _, text := range []string{"", "#", "# n", "\t", "\t# n", " ", " # n", "\n", "a # n", "-", "~", "''", "\u00a0", "\xff"} {
		// A row that is not empty ends those that lie deeper.
		first, deeper := row(0, text, 1), row(1, "a", 2)
		empty := rows.Below([]api.Row{first, deeper}, 0) == 2
		want := [][]api.Row{{first}, {deeper}}
		if empty {
			want = want[1:]
		}
		if got := load.Parts([]api.Row{first, row(0, "---", 3), deeper}); !sameParts(got, want) {
			t.Errorf("%q: %v, not %v", text, got, want)
		}
		if got := load.Parts([]api.Row{first}); (len(got) == 0) != empty {
			t.Errorf("%q alone: %v", text, got)
		}
	}
}

func TestPartsHaveTheirRowsAsTheyAre(t *testing.T) {
	first, second := row(-7, "\xff\n", -1), row(math.MaxInt, "", math.MinInt)
	third, fourth := row(math.MinInt, "# n", 0), row(9, "\t---", math.MaxInt)
	l := []api.Row{first, second, row(0, "---", 9), row(0, "---", 9), third, fourth}
	if got := load.Parts(l); !sameParts(got, [][]api.Row{{first, second}, nil, {third, fourth}}) {
		t.Error(got)
	}
	if got := load.Parts(nil); len(got) != 0 {
		t.Error(got)
	}
	if got := load.Parts([]api.Row{}); len(got) != 0 {
		t.Error(got)
	}
}

func TestPartsKnowsNoLimit(t *testing.T) {
	for _, many := range []int{63, 64, 65, 66, 1000, 100000} {
		l := lines(t, strings.Repeat("---\n", min(many, 16384)))
		for len(l) < many {
			l = append(l, l[:min(len(l), many-len(l))]...)
		}
		if got := load.Parts(l); !sameParts(got, make([][]api.Row, many)) {
			t.Errorf("%d markers: %d", many, len(got))
		}
	}
	l := slices.Repeat([]api.Row{row(2, "a", 1)}, 100000)
	if got := load.Parts(l); !sameParts(got, [][]api.Row{l}) {
		t.Error(len(got))
	}
}

func TestPartsOfShortLists(t *testing.T) {
	parts := []api.Row{row(0, "---", 1), row(0, "a", 2), row(0, "", 3), row(2, "# n", 4), row(1, "---", 5), row(0, "--- a", 6)}
	shortLists(parts, 6, func(l []api.Row) { agreeParts(t, l) })
}

func TestPartsOfDrawnRows(t *testing.T) {
	draw := rand.New(rand.NewSource(1))
	for range 40000 {
		agreeParts(t, drawnRows(draw))
	}
}

// P11.1: Load

func TestExample(t *testing.T) {
	for _, s := range []string{"a\n---\nb", "a\n---\nb\n", "a\r\n---\r\nb\r\n"} {
		checkLoad(t, s, str("a"), str("b"))
	}
}

func TestLoad(t *testing.T) {
	for _, c := range []struct {
		text string
		want []string // the documents in one line each
	}{
		{"", nil}, {"\n", nil}, {"  ", nil}, {"\n  \n# n\n   # n", nil}, {"\r\n\r\n", nil},
		{"---", []string{"~"}}, {"---\n", []string{"~"}}, {"---  \n", []string{"~"}}, {"---\r\n", []string{"~"}},
		{"\n---\n", []string{"~"}}, {"# n\n\n---\n# n\n", []string{"~"}}, {"---\n\n\n", []string{"~"}},
		{"---\n---", []string{"~", "~"}}, {"---\n\n---\n# n\n---", []string{"~", "~", "~"}},
		{"a", []string{"a"}}, {"# n\na\n", []string{"a"}}, {"---\na", []string{"a"}}, {"# n\n---\na\n", []string{"a"}},
		{"a\n---", []string{"a", "~"}}, {"a\n---\n\n# n\n", []string{"a", "~"}}, {"a\n---\n---\nb", []string{"a", "~", "b"}},
		{"~\n---\nnull\n---\n!!null\n---\n''\n", []string{"~", "~", "~", "''"}},
		{"a: 5\nb:\n  - c\n---\n- d\n- e: f\n---\n[g, {h: i}]\n", []string{"{a: 5, b: [c]}", "[d, {e: f}]", "[g, {h: i}]"}},
		// Columns and anchors are a document's own.
		{"  a: b\n  c: d\n---\n    - e\n---\nf", []string{"{a: b, c: d}", "[e]", "f"}},
		{"&a\n- *a\n---\n&a [*a]\n---\n*a", []string{"&a [*a]", "&a [*a]", "*a"}},
		{"&a\n---\n- b\n", []string{"&a ~", "[b]"}}, {"!!str\n---\n5", []string{"!!str ''", "5"}}, {"a:\n---\n  b", []string{"{a: ~}", "b"}}, {"-\n---\n  b", []string{"[~]", "b"}},
		// A block ends at a marker, which is no row of it, and has the empty rows ahead of it.
		{"|\n  a\n---\n|\n  b\n", []string{`"a\n"`, `"b\n"`}}, {"|+\n  a\n\n\n---\nb", []string{`"a\n\n\n"`, "b"}}, {"- |\n---\n- >+\n\n---\n", []string{"['']", `["\n"]`, "~"}}, {"a: |\n  ---\n  b\n---\nc\n", []string{`{a: "---\nb\n"}`, "c"}},
		// Rows that are no markers.
		{"--- a", []string{"'--- a'"}}, {"--", []string{"'--'"}}, {"----\n---\n----", []string{"'----'", "'----'"}}, {"--- |\n---\n---a", []string{"'--- |'", "'---a'"}}, {"- ---a\n---\n'---'\n", []string{"['---a']", "'---'"}}, {"#---\n---\n  #---\n", []string{"~"}},
	} {
		checkLoad(t, c.text, means(t, c.want...)...)
		agree(t, c.text)
	}
	// A row of another column, or with more text, is a part of its document, where it may not stand.
	for _, c := range []struct {
		text string
		at   int
	}{
		{"a\n ---\nb", 2}, {"a\n  ---", 2}, {" ---", 1}, {"--- # n", 1}, {"a\n---# n\nb", 2}, {"a\n---\t\nb", 2}, {"---\n--- # n\n---\n", 2}, {"- a\n----\n- b", 2}, {"- a\n--- b", 2}, {"a: b\n--\n", 2}, {"---\na: b\n---:\n", 3}, {"---: a", 1},
	} {
		checkFault(t, c.text, api.ErrForm, c.at)
		agree(t, c.text)
	}
}

// texts are several documents, one a line.
func texts(count int) string {
	return "0\n" + strings.Repeat("---\n7\n", count-1)
}

func TestManyDocuments(t *testing.T) {
	seven := means(t, "7")[0]
	zero := means(t, "0")[0]
	sevens := func(count int) []api.Tree { return slices.Repeat([]api.Tree{seven}, count) }
	nulls := func(count int) []api.Tree { return slices.Repeat([]api.Tree{null}, count) }
	// Ahead of the first marker stands one.
	for count := 1; count <= 64; count++ {
		checkLoad(t, texts(count), append([]api.Tree{zero}, sevens(count-1)...)...)
	}
	for count := 65; count <= 70; count++ {
		checkFault(t, texts(count), api.ErrMany, 128)
	}
	// Ahead of the first marker stands none.
	for _, ahead := range []string{"", "\n", "# n\n", "  # n\n   \r\n\n"} {
		more := strings.Count(ahead, "\n")
		checkLoad(t, ahead+strings.Repeat("---\n7\n", 64), sevens(64)...)
		checkLoad(t, ahead+strings.Repeat("---\n", 64), nulls(64)...)
		checkLoad(t, ahead+strings.Repeat("---\n# n\n\n", 64), nulls(64)...)
		checkLoad(t, ahead+strings.Repeat("---\r\n", 63)+"---", nulls(64)...)
		checkFault(t, ahead+strings.Repeat("---\n7\n", 65), api.ErrMany, more+129)
		checkFault(t, ahead+strings.Repeat("---\n", 65), api.ErrMany, more+65)
		checkFault(t, ahead+strings.Repeat("---\n", 66), api.ErrMany, more+65)
		checkFault(t, ahead+strings.Repeat("---\n# n\n\n", 65), api.ErrMany, more+193)
		checkFault(t, ahead+strings.Repeat("---\r\n", 64)+"---", api.ErrMany, more+65)
	}
	checkLoad(t, "\n7\n"+strings.Repeat("---\n", 63), append(sevens(1), nulls(63)...)...)
	checkFault(t, "\n7\n"+strings.Repeat("---\n", 64), api.ErrMany, 66)
	checkFault(t, "7\n\n\n"+strings.Repeat("\n---\n", 64), api.ErrMany, 131)
	// Rows that are no markers make no document.
	checkLoad(t, strings.Repeat("---\n|\n  ---\n  ---\n#---\n", 64), slices.Repeat([]api.Tree{str("---\n---\n")}, 64)...)
}

func TestLayer2Faults(t *testing.T) {
	for _, c := range []struct {
		text string
		why  api.Errno
		at   int
	}{
		{"\xff", api.ErrUtf, 1}, {"a\n---\n\x00\n", api.ErrUtf, 3}, {"a\n---\n\tb\n", api.ErrTab, 3}, {"---\r", api.ErrUtf, 1}, {"---\n\t---\n", api.ErrTab, 2}, {"\n# \x01\n---\n", api.ErrUtf, 2}, {"a\n---\n\tb\n---\n\xff", api.ErrTab, 3},
		// It is told ahead of too many documents, and of a document's fault.
		{texts(65) + "\xff", api.ErrUtf, 130}, {texts(70) + "\tb\n", api.ErrTab, 140}, {strings.Repeat("---\n", 100) + "# \x7f", api.ErrUtf, 101}, {"[a\n---\n\tb", api.ErrTab, 3}, {"- a\nb\n---\nc\n---\n\xff", api.ErrUtf, 6}, {"[a\n" + texts(65) + "\xff", api.ErrUtf, 131},
	} {
		checkFault(t, c.text, c.why, c.at)
		checkOneFault(t, c.text, c.why, c.at)
		agree(t, c.text)
	}
	// A text that is too long has no line.
	for _, s := range []string{"a\n---\nb\n", "---\n", "[a\n", texts(64), texts(65)} {
		long := s + "---\n#" + strings.Repeat("n", api.MaxText-len(s)-5)
		if len(long) != 1<<16 {
			t.Fatal(len(long))
		}
		if f := agree(t, long); f == (api.Fault{Why: api.ErrMany}) {
			t.Errorf("%d bytes: %v", len(long), f)
		}
		for _, more := range []string{"n", "\n", "\xff", " "} {
			checkFault(t, long+more, api.ErrMany, 0)
			checkOneFault(t, long+more, api.ErrMany, 0)
		}
	}
	longest := strings.Repeat("a", api.MaxText-4)
	checkLoad(t, "---\n"+longest, str(longest))
	checkFault(t, "---\n"+longest+"a", api.ErrMany, 0)
}

func TestTooManyDocumentsAreToldAheadOfADocumentsFault(t *testing.T) {
	for _, bad := range []string{"[a", "- a\nb", "!!int a", "'", "a: b\n c", " a\nb", "@", strings.Repeat("k", 257) + ": a"} {
		count := strings.Count(bad, "\n") + 1
		if _, f := load.Load(bad); f.Why == api.OK {
			t.Fatalf("%q is right", bad)
		}
		// In the first document, in a later one, in the one that is too many, and behind it.
		checkFault(t, bad+strings.Repeat("\n---", 64), api.ErrMany, count+64)
		checkFault(t, "---\n"+bad+strings.Repeat("\n---", 64), api.ErrMany, count+65)
		checkFault(t, strings.Repeat("---\n", 64)+bad+"\n---", api.ErrMany, count+65)
		checkFault(t, strings.Repeat("---\n", 65)+bad, api.ErrMany, 65)
		checkFault(t, strings.Repeat("---\n", 66)+bad, api.ErrMany, 65)
		// Of as many as there may be the fault is the document's.
		for _, s := range []string{bad + strings.Repeat("\n---", 63), "---\n" + bad + strings.Repeat("\n---", 63), strings.Repeat("---\n", 64) + bad} {
			if f := agree(t, s); f.Why == api.OK || f.Why == api.ErrMany && f.At > 64+count || f.At == 0 {
				t.Errorf("%.999q: %v", s, f)
			}
		}
	}
}

func TestLayer10Faults(t *testing.T) {
	items := func(count int) string { return strings.Repeat("- a\n", count) }
	for _, c := range []struct {
		text string
		why  api.Errno
		at   int // in the document
	}{
		{"  - a\n- b\n", api.ErrTab, 2},
		{"a\n  b\n", api.ErrForm, 2},
		{"- a\nb: c\n", api.ErrForm, 2},
		{"\n# n\n- a\n\nb\n", api.ErrForm, 5},
		{"- a\n- [b\n", api.ErrEnd, 2},
		{"'a\n", api.ErrEnd, 1},
		{"a:\n  !!int b\n", api.ErrTag, 2},
		{"!!seq\na: b\n", api.ErrTag, 1},
		{"a: 1\n" + strings.Repeat("k", 257) + ": 2\n", api.ErrMany, 2},
		{strings.Repeat("- ", 65) + "a\n", api.ErrDeep, 1},
		{"a: |\n    b\n  c\n", api.ErrTab, 3},
		// Of a tree that is too great no line is told.
		{items(4096), api.ErrMany, 0},
		{"- " + strings.Repeat("[", 64) + strings.Repeat("]", 64) + "\n", api.ErrMany, 0},
	} {
		checkFault(t, c.text, c.why, c.at)
		for _, ahead := range []string{"---\n", "\n# n\n---\n", "a\n---\n", "---\n---\n\n---\n", "a: |+\n  b\n\n---\n", "&a\n---\n", "- a\n- b\n---\nc:\n---\n"} {
			at := c.at
			if at > 0 {
				at += strings.Count(ahead, "\n")
			}
			// What stands behind turns nothing, also if it has a fault of its own.
			for _, behind := range []string{"", "---\n", "---\nb\n", "---\n[\n", "---\n  - a\n- b\n---\n!!int b\n", "---\n'", "---\n" + strings.Repeat("- ", 65) + "\n"} {
				checkFault(t, ahead+c.text+behind, c.why, at)
				checkOneFault(t, ahead+c.text+behind, c.why, at)
				agree(t, ahead+c.text+behind)
			}
		}
	}
	// How great and how deep trees are is asked of each one.
	great := items(4095) + "---\n"
	want, f := load.One(items(4095))
	if f != (api.Fault{}) || len(want.Kids) != 4095 {
		t.Fatal(f)
	}
	checkLoad(t, great+great+great+strings.Repeat("- ", 64)+"\n", want, want, want, deep(64))
}

// deep are Seqs within one another, of Null at last.
func deep(count int) api.Tree {
	t := null
	for range count {
		t = api.Tree{Kind: api.Seq, Kids: []api.Tree{t}}
	}
	return t
}

func TestShortTexts(t *testing.T) {
	refused := 0
	parts := []string{"---\n", "a\n", "\n", "  # n\n", "- b\n", " ---\n", "|+\n", "[\n"}
	shortLists(parts, 5, func(l []string) {
		s := strings.Join(l, "")
		if agree(t, s).Why != api.OK {
			refused++
		}
		agree(t, strings.TrimSuffix(s, "\n"))
	})
	if refused < 1000 {
		t.Errorf("only %d of them are refused", refused)
	}
	// Also where lines end elsewhere than between their signs.
	shortLists([]string{"-", "---", "\n", "\r\n", " ", "#", "a"}, 6, func(l []string) {
		agree(t, strings.Join(l, ""))
	})
}

func TestDrawnTexts(t *testing.T) {
	draw := rand.New(rand.NewSource(2))
	refused := map[api.Errno]int{}
	for range 40000 {
		s := drawnText(draw)
		f := agree(t, s)
		refused[f.Why]++
		// T1: a fault has a line that the text has.
		if f.At < 0 || f.At > len(rows.Lines(s)) {
			t.Fatalf("%q: %v", s, f)
		}
	}
	for _, why := range []api.Errno{api.OK, api.ErrForm, api.ErrEnd, api.ErrMany, api.ErrUtf, api.ErrTab, api.ErrTag} {
		if refused[why] < 20 {
			t.Errorf("only %d of %v", refused[why], why)
		}
	}
}

// P11.2

func TestOne(t *testing.T) {
	for _, s := range []string{"", "\n", "  \n# n", "---", "---\n", "\n# n\n---\n\n", "~", "---\nnull", "# n\n\n~\n"} {
		checkOne(t, s, null)
	}
	for _, s := range []string{"a", "a\n", "---\na", "\n---\na\n# n\n", "# n\n  a\n\n", "'a'", "---  \r\n  a\r\n"} {
		checkOne(t, s, str("a"))
	}
	checkOne(t, "a:\n  - 1\n  - b: c\n", means(t, "{a: [1, {b: c}]}")[0])
	checkOne(t, "---\n&a\n- *a\n", means(t, "&a [*a]")[0])
	checkOne(t, "|\n  ---\n", str("---\n"))
}

func TestOneOfSeveral(t *testing.T) {
	for _, s := range []string{"a\n---\nb", "a\n---", "---\n---", "---\na\n---\n", "\n---\n\n---\n# n", "a\n---\n# n", "---\n---\na", "~\n---\n~", "a\n---\na", texts(2), texts(3), texts(64), strings.Repeat("---\n", 64)} {
		checkOneFault(t, s, api.ErrMany, 0)
	}
}

func TestOneOfATextThatHasAFault(t *testing.T) {
	// Also of several documents Load's fault is told.
	checkOneFault(t, "[a", api.ErrEnd, 1)
	checkOneFault(t, "---\n\n- a\nb", api.ErrForm, 4)
	checkOneFault(t, "a\n---\n[b", api.ErrEnd, 3)
	checkOneFault(t, "[a\n---\nb", api.ErrEnd, 1)
	checkOneFault(t, "a\n---\n!!int b\n---\nc", api.ErrTag, 3)
	checkOneFault(t, "a\n---\n\xff", api.ErrUtf, 3)
	checkOneFault(t, "a\n---\n\tb", api.ErrTab, 3)
	checkOneFault(t, texts(65), api.ErrMany, 128)
	checkOneFault(t, strings.Repeat("---\n", 65), api.ErrMany, 65)
	checkOneFault(t, strings.Repeat("a", api.MaxText+1), api.ErrMany, 0)
	checkOneFault(t, strings.Repeat("- a\n", 4096), api.ErrMany, 0)
}

// P11.3

func TestDocumentsWithMarkersBetween(t *testing.T) {
	draw := rand.New(rand.NewSource(3))
	for n := range 4000 {
		count := 1 + n%64
		var text string
		var want []api.Tree
		for i := range count {
			next := drawnDocument(draw)
			if i > 0 {
				text += one(draw, "---\n", "---\r\n", "---  \n")
			}
			text += next
			alone, f := load.One(next)
			if f != (api.Fault{}) {
				t.Fatalf("%q: %v", next, f)
			}
			want = append(want, alone)
		}
		checkLoad(t, text, want...)
		// One marker more, ahead of all of them, makes no document more.
		checkLoad(t, one(draw, "", "\n", "# n\n\n")+"---\n"+text, want...)
		// One at the end makes one.
		if count < 64 {
			checkLoad(t, text+"---\n", append(want, null)...)
		} else {
			checkFault(t, text+"---\n", api.ErrMany, strings.Count(text, "\n")+1)
		}
	}
}

func TestTextsOfSeveralDocumentsWithAMarkerBetween(t *testing.T) {
	draw := rand.New(rand.NewSource(4))
	both := 0
	for range 30000 {
		first, second := drawnText(draw), drawnText(draw)
		if first != "" && !strings.HasSuffix(first, "\n") {
			first += "\n"
		}
		a, f := load.Load(first)
		b, g := load.Load(second)
		if f != (api.Fault{}) || g != (api.Fault{}) || len(a)+len(b) >= 64 {
			continue
		}
		// The marker's document is the second text's first one, or one of no rows that count.
		if list := wantDocuments("---\n" + second); len(list) > len(b) {
			b = append([]api.Tree{null}, b...)
		}
		if len(a) > 1 && len(b) > 1 {
			both++
		}
		checkLoad(t, first+"---\n"+second, append(a, b...)...)
	}
	if both < 1000 {
		t.Errorf("only %d", both)
	}
}

// P11.4

func TestEachDocumentIsReadAsIfItStoodAlone(t *testing.T) {
	draw := rand.New(rand.NewSource(5))
	read, refused := 0, 0
	for range 30000 {
		s := drawnText(draw)
		if draw.Intn(3) > 0 {
			s = drawnDocument(draw) + "---\n" + drawnDocument(draw) + "---\n" + s
		}
		list := wantDocuments(s)
		// These faults are no document's.
		if _, f := rows.Read(s); f.Why != api.OK || len(list) > 64 {
			continue
		}
		trees, f := load.Load(s)
		for i, d := range list {
			alone, g := load.One(d.text)
			if g.Why != api.OK {
				g.At += d.lines
				if f != g {
					t.Fatalf("%q: %v, but document %d alone: %v", s, f, i, g)
				}
				refused++
				break
			}
			if f.Why == api.OK && (len(trees) != len(list) || !flow.Same(trees[i], alone)) {
				t.Fatalf("%q: %s, but document %d alone: %s", s, shown(trees), i, shown(alone))
			}
			read++
		}
	}
	if read < 10000 || refused < 1000 {
		t.Errorf("only %d are read, and %d refused", read, refused)
	}
}

func TestPartsAreReadAsIfTheyStoodAlone(t *testing.T) {
	draw := rand.New(rand.NewSource(6))
	for range 10000 {
		s := drawnText(draw)
		trees, f := load.Load(s)
		if f != (api.Fault{}) {
			continue
		}
		parts := load.Parts(lines(t, s))
		if len(parts) != len(trees) {
			t.Fatalf("%q: %d documents, but %d trees", s, len(parts), len(trees))
		}
		for i, part := range parts {
			checkOne(t, rows.Write(part), trees[i])
			// A document has no marker in it.
			if again := load.Parts(part); len(again) > 1 || len(again) == 1 && !rows.Same(again[0], part) {
				t.Fatalf("%q: %v has %v", s, part, again)
			}
		}
	}
}

// The rules that hold everywhere

func TestPartsAreTheCallersOwn(t *testing.T) {
	l := lines(t, "a\nb\n---\nc\n---\n---\nd\n# n\n\n---\n")
	whole := append(l, row(0, "behind", 99))
	kept := slices.Clone(whole)
	want := wantParts(l)
	// Writing into one list, or behind its end, turns neither another one nor the rows.
	for i := range want {
		got := load.Parts(l)
		all := got[i][:cap(got[i])]
		for k := range all {
			all[k] = row(7, "spoilt", 7)
		}
		_ = append(got[i], row(8, "spoilt", 8))
		for k := range got {
			if k != i && !rows.Same(got[k], want[k]) {
				t.Errorf("list %d shares what list %d has: %v", i, k, got[k])
			}
		}
		if !rows.Same(whole, kept) {
			t.Fatalf("list %d shares the rows: %v", i, whole)
		}
	}
	if got := load.Parts(l); !sameParts(got, want) {
		t.Error(got)
	}
}

func TestPartsKeepsNothing(t *testing.T) {
	l := lines(t, "a\n---\nb")
	got := load.Parts(l)
	for i := range l {
		l[i] = row(0, "spoilt", 7)
	}
	if !sameParts(got, [][]api.Row{{row(0, "a", 1)}, {row(0, "b", 3)}}) {
		t.Error(got)
	}
}

func TestTreesAreTheCallersOwn(t *testing.T) {
	const text = "- a\n- b\n---\n[c, [d]]\n---\n- a\n- b\n---\ne: {f: g}\n"
	want, f := wantLoad(text)
	if f != (api.Fault{}) {
		t.Fatal(f)
	}
	var spoil func([]api.Tree)
	spoil = func(list []api.Tree) {
		for _, next := range list {
			spoil(next.Kids)
		}
		all := list[:cap(list)]
		for i := range all {
			all[i] = api.Tree{Kind: 99}
		}
	}
	for i := range want {
		got, _ := load.Load(text)
		spoil(got[i].Kids)
		for k := range got {
			if k != i && !flow.Same(got[k], want[k]) {
				t.Errorf("tree %d shares what tree %d has", i, k)
			}
		}
		spoil(got)
	}
	checkLoad(t, text, want...)
	alone, _ := load.One("- a\n- [b]\n")
	spoil(alone.Kids)
	checkOne(t, "- a\n- [b]\n", means(t, "[a, [b]]")[0])
}
