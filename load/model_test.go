package load_test

import (
	"math/rand"
	"regexp"
	"strings"

	"grommet/api"
	"grommet/rows"
	"grommet/tree"
)

// The chapter's words, written a second time: of rows by how many markers stand ahead of each, of texts as patterns.

var (
	markerLine = regexp.MustCompile(`(?m)^--- *\r?(\n|\z)`)
	fullLine   = regexp.MustCompile(`(?m)^ *[^ #\r\n]`)
	fullText   = regexp.MustCompile(`^[^#]`)
)

// wantParts are the documents' rows.
func wantParts(l []api.Row) [][]api.Row {
	parts := [][]api.Row{nil}
	for _, r := range l {
		last := len(parts) - 1
		if r.Text == "---" && r.Col == 0 {
			parts = append(parts, nil)
		} else {
			parts[last] = append(parts[last], r)
		}
	}
	for _, r := range parts[0] {
		if fullText.MatchString(r.Text) {
			return parts
		}
	}
	return parts[1:]
}

// document is a text's part, with how many lines stand ahead of it; its marker is the last one of these.
type document struct {
	text  string
	lines int
}

// wantDocuments cuts a text, where the package goes over rows.
func wantDocuments(s string) []document {
	var list []document
	begin := 0
	cut := func(end int) {
		list = append(list, document{s[begin:end], strings.Count(s[:begin], "\n")})
	}
	for _, at := range markerLine.FindAllStringIndex(s, -1) {
		cut(at[0])
		begin = at[1]
	}
	cut(len(s))
	if !fullLine.MatchString(list[0].text) {
		list = list[1:]
	}
	return list
}

// wantAlone is what a document means that stands alone.
func wantAlone(s string) (api.Tree, api.Fault) {
	l, f := rows.Read(s)
	if f.Why != api.OK {
		return api.Tree{}, f
	}
	return tree.Parse(l)
}

func wantLoad(s string) ([]api.Tree, api.Fault) {
	if _, f := rows.Read(s); f.Why != api.OK {
		return nil, f
	}
	list := wantDocuments(s)
	if len(list) > 64 {
		return nil, api.Fault{Why: 5, At: list[64].lines}
	}
	var trees []api.Tree
	for _, d := range list {
		t, f := wantAlone(d.text)
		if f.At > 0 {
			f.At += d.lines
		}
		if f.Why != api.OK {
			return nil, f
		}
		trees = append(trees, t)
	}
	return trees, api.Fault{}
}

func wantOne(s string) (api.Tree, api.Fault) {
	trees, f := wantLoad(s)
	if f.Why != api.OK {
		return api.Tree{}, f
	}
	if len(trees) > 1 {
		return api.Tree{}, api.Fault{Why: 5}
	}
	return append(trees, api.Tree{Kind: 1})[0], f
}

// shortLists are those of up to long of the parts, each one handed to a function.
func shortLists[T any](parts []T, long int, try func([]T)) {
	var grow func([]T)
	grow = func(l []T) {
		try(l)
		if len(l) == long {
			return
		}
		for _, part := range parts {
			grow(append(l[:len(l):len(l)], part))
		}
	}
	grow(nil)
}

func one[T any](draw *rand.Rand, list ...T) T {
	return list[draw.Intn(len(list))]
}

// drawnLine is a line that may stand anywhere, and means something or nothing there.
func drawnLine(draw *rand.Rand) string {
	if draw.Intn(3) > 0 {
		return one(draw, "---", "---", "---   ", "", "", "   ", "# n", "  # n", "#---")
	}
	return one(draw,
		"a", "b: c", "- d", "  e", "- f: g", "  h: i", "j: |", "k: >+", "    l", "- |+", "[m, n]", "{o: p}", "&q", "*r", "!!int 5", "  - s",
		"--", "----", " ---", "  ---", "--- t", "--- # n", "---\t", "---u", "- ---", "v: ---", "'---'", "a---", "- - -")
}

// drawnWrongLine is one that layer 2, or layer 10 wherever it stands, refuses.
func drawnWrongLine(draw *rand.Rand) string {
	return one(draw, "\tw", "\xff", "a\rb", "[x", "'y", "!!int z", "@", strings.Repeat("k", 257)+": 1", strings.Repeat("[", 65)+strings.Repeat("]", 65))
}

// drawnText has mostly few lines, and sometimes more documents than it may.
func drawnText(draw *rand.Rand) string {
	var s strings.Builder
	lines, wrong := draw.Intn(9), draw.Intn(40) == 0
	if draw.Intn(20) == 0 {
		lines += one(draw, 50, 400)
	}
	for range lines {
		if wrong && draw.Intn(9) == 0 {
			s.WriteString(drawnWrongLine(draw))
		} else {
			s.WriteString(drawnLine(draw))
		}
		s.WriteString(one(draw, "\n", "\n", "\r\n"))
	}
	if draw.Intn(2) == 0 {
		return strings.TrimSuffix(strings.TrimSuffix(s.String(), "\n"), "\r")
	}
	return s.String()
}

// drawnRows may have any columns and numbers.
func drawnRows(draw *rand.Rand) []api.Row {
	l := make([]api.Row, draw.Intn(12))
	for i := range l {
		l[i] = api.Row{
			Col:  one(draw, 0, 0, 0, 0, 0, 1, 3, -1),
			Text: one(draw, "---", "---", "---", "", "", "#", "# n", "#---", "a", "- b", "--", "----", "--- a", "--- ", "\u2014"),
			At:   one(draw, i+1, i+1, draw.Int(), -draw.Int()),
		}
	}
	return l
}

// drawnDocument is one that is right, and has rows that are not empty.
func drawnDocument(draw *rand.Rand) string {
	return one(draw, "", "", "\n", "# n\n", "  #\n\n") + one(draw,
		"a\n", "5\n", "~\n", "''\n", "[]\n", "{}\n", "- a\n", "-\n", "a:\n", "a:\n  - 1\n  - b: c\n", "&a [*a]\n", "*a\n", "&a\n- *a\n", "!!str\n", "!!str 5\n", "'it''s'\n", "\"it's\"\n",
		"|\n  a\n  b\n", ">\n  a\n  b\n", "|+\n  a\n\n\n", "- |+\n  a\n\n", "a: |-\n  ---\n  # b\n", "|\n ---\n", "- - a\n  - b\n- {c: d}\n", "  a: b\n  c: d\n", "--- a\n", "----\n", "'---'\n", "a: ---b\n",
	) + one(draw, "", "", "\n", "# n\n", "\n  # n\n   \n")
}
