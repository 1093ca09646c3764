package tree_test

import (
	"fmt"
	"math"
	"math/rand"
	"reflect"
	"slices"
	"strings"
	"testing"

	"grommet/api"
	"grommet/flow"
	"grommet/rows"
	"grommet/tree"
)

var null = api.Tree{Kind: api.Null}

func number(text string) api.Tree    { return api.Tree{Kind: api.Int, Text: text} }
func str(text string) api.Tree       { return api.Tree{Kind: api.Str, Text: text} }
func seq(kids ...api.Tree) api.Tree  { return api.Tree{Kind: api.Seq, Kids: kids} }
func dict(kids ...api.Tree) api.Tree { return api.Tree{Kind: api.Map, Kids: kids} }

func anchored(name string, t api.Tree) api.Tree {
	t.Anchor = name
	return t
}

func row(col int, text string, at int) api.Row { return api.Row{Col: col, Text: text, At: at} }

// lines are a text's rows.
func lines(t *testing.T, text string) []api.Row {
	t.Helper()
	l, f := rows.Read(text)
	if f != (api.Fault{}) {
		t.Fatalf("%.999q: %v", text, f)
	}
	return l
}

// shown is the beginning of what is told of a value.
func shown(v any) string {
	s := fmt.Sprintf("%+v", v)
	return s[:min(len(s), 999)]
}

func checkTree(t *testing.T, l []api.Row, want api.Tree) {
	t.Helper()
	if got, f := tree.Parse(l); !flow.Same(got, want) || f != (api.Fault{}) {
		t.Fatalf("Parse(%s): %s, %v, not %s", shown(l), shown(got), f, shown(want))
	}
}

func checkFault(t *testing.T, l []api.Row, why api.Errno, at int) {
	t.Helper()
	if got, f := tree.Parse(l); !reflect.DeepEqual(got, api.Tree{}) || f != (api.Fault{Why: why, At: at}) {
		t.Fatalf("Parse(%s): %s, %v, not {%v %d}", shown(l), shown(got), f, why, at)
	}
}

// means asks that a text of lines means what one of a line means.
func means(t *testing.T, text, line string) {
	t.Helper()
	want, f := flow.Whole(line)
	if f != (api.Fault{}) {
		t.Fatalf("%q: %v", line, f)
	}
	checkTree(t, lines(t, text), want)
}

// is asks what a text of lines means, where one line can't tell it.
func is(t *testing.T, text string, want api.Tree) {
	t.Helper()
	checkTree(t, lines(t, text), want)
}

// wrong asks for a text's fault.
func wrong(t *testing.T, text string, why api.Errno, at int) {
	t.Helper()
	checkFault(t, lines(t, text), why, at)
}

// agree holds Parse against the words written a second time; it tells whether there is a fault.
func agree(t *testing.T, l []api.Row) bool {
	t.Helper()
	want, fault := wantParse(l)
	if fault.Why != api.OK {
		checkFault(t, l, fault.Why, fault.At)
		return true
	}
	checkTree(t, l, want)
	return false
}

func agreeItem(t *testing.T, s string) {
	t.Helper()
	rest, n, ok := tree.Item(s)
	wantRest, wantN, wantOK := wantItem(s)
	if rest != wantRest || n != wantN || ok != wantOK {
		t.Fatalf("Item(%.999q): %.999q, %d, %v, not %.999q, %d, %v", s, rest, n, ok, wantRest, wantN, wantOK)
	}
}

func agreeEntry(t *testing.T, s string) {
	t.Helper()
	key, rest, n, ok := tree.Entry(s)
	wantKey, wantRest, wantN, wantOK := wantEntry(s)
	if !flow.Same(key, wantKey) || rest != wantRest || n != wantN || ok != wantOK {
		t.Fatalf("Entry(%.999q): %v, %.999q, %d, %v, not %v, %.999q, %d, %v", s, key, rest, n, ok, wantKey, wantRest, wantN, wantOK)
	}
}

// P10.1

func TestItem(t *testing.T) {
	for _, c := range []struct {
		s, rest string
		n       int
	}{
		{"-", "", 1}, {"- ", "", 2}, {"-    ", "", 5},
		{"- a", "a", 2}, {"-   a", "a", 4}, {"- a ", "a ", 2}, {"-  a  b ", "a  b ", 3}, {"- -", "-", 2}, {"- - a", "- a", 2}, {"-  -  ", "-  ", 3}, {"- a: b", "a: b", 2}, {"- #a", "#a", 2}, {"- \ta", "\ta", 2}, {"- \n", "\n", 2}, {"- \xff", "\xff", 2}, {"- \u20ac", "\u20ac", 2},
	} {
		if rest, n, ok := tree.Item(c.s); rest != c.rest || n != c.n || !ok {
			t.Errorf("Item(%q): %q, %d, %v", c.s, rest, n, ok)
		}
	}
}

func TestItemThatIsNone(t *testing.T) {
	for _, s := range []string{"", " ", "a", "-a", "--", "---", "-- a", "-\t", "-\ta", "-\n", "-:", "-: a", "-#", " -", " - a", "\t- a", "a - b", "+ a", "\u2212 a", "-\u00a0a", "-\xff"} {
		if rest, n, ok := tree.Item(s); rest != "" || n != 0 || ok {
			t.Errorf("Item(%q): %q, %d, %v", s, rest, n, ok)
		}
	}
	for n := range 256 {
		if s := "-" + string([]byte{byte(n)}) + "a"; n != ' ' {
			if rest, n, ok := tree.Item(s); rest != "" || n != 0 || ok {
				t.Errorf("Item(%q): %q, %d, %v", s, rest, n, ok)
			}
		}
	}
}

func TestEntry(t *testing.T) {
	a := str("a")
	for _, c := range []struct {
		s    string
		key  api.Tree
		rest string
		n    int
	}{
		// What stands behind the colon.
		{"a:", a, "", 2}, {"a: ", a, "", 3}, {"a:    ", a, "", 6}, {"a: b", a, "b", 3}, {"a:   b", a, "b", 5}, {"a: b ", a, "b ", 3}, {"a: b: c", a, "b: c", 3}, {"a: - b", a, "- b", 3}, {"a: # b", a, "# b", 3}, {"a: \tb", a, "\tb", 3}, {"a: \xff", a, "\xff", 3},
		// Blanks ahead of it.
		{"a :", a, "", 3}, {"a   : b", a, "b", 6}, {"'a' :", a, "", 5}, {`"a"   : b`, a, "b", 8},
		// Quoted keys.
		{"'a':", a, "", 4}, {`"a": b`, a, "b", 5}, {"'': b", str(""), "b", 4}, {`"":`, str(""), "", 3}, {"'it''s': b", str("it's"), "b", 9}, {`"\u00e9\n": b`, str("\u00e9\n"), "b", 12}, {`"\"": b`, str(`"`), "b", 6}, {"'a: b': c", str("a: b"), "c", 8}, {"'a # b': c", str("a # b"), "c", 9}, {"' a ': c", str(" a "), "c", 7},
		// Plain ones.
		{"a b: c", str("a b"), "c", 5}, {"a  b: c", str("a  b"), "c", 6}, {"a:b: c", str("a:b"), "c", 5}, {"a#b: c", str("a#b"), "c", 5}, {"a, b: c", str("a, b"), "c", 6}, {"a[0]: c", str("a[0]"), "c", 6}, {"-a: b", str("-a"), "b", 4}, {"--: b", str("--"), "b", 4}, {"it's: b", str("it's"), "b", 6}, {"a\"b: c", str(`a"b`), "c", 5}, {"\u00e9: b", str("\u00e9"), "b", 4},
		// Kinds.
		{"~: b", null, "b", 3}, {"null: b", null, "b", 6}, {"null :", null, "", 6}, {"true: b", api.Tree{Kind: api.Bool, Text: "true"}, "b", 6}, {"false:", api.Tree{Kind: api.Bool, Text: "false"}, "", 6}, {"5: b", number("5"), "b", 3}, {"-5: b", number("-5"), "b", 4}, {"007: b", str("007"), "b", 5}, {"9223372036854775808: b", str("9223372036854775808"), "b", 21},
		{"'~': b", str("~"), "b", 5}, {`"null": b`, str("null"), "b", 8}, {"'true': b", str("true"), "b", 8}, {`"5": b`, str("5"), "b", 5},
	} {
		if key, rest, n, ok := tree.Entry(c.s); !flow.Same(key, c.key) || rest != c.rest || n != c.n || !ok {
			t.Errorf("Entry(%q): %v, %q, %d, %v", c.s, key, rest, n, ok)
		}
	}
}

func TestEntryThatIsNone(t *testing.T) {
	for _, s := range []string{
		"", " ", "a", "a b", ":", ": a", " : a", "::", " a: b", "\ta: b",
		// No colon that ends the key.
		"a:b", "a:\tb", "a:\n", "'a'", "'a':b", `"a":"b"`, "'a' b: c", "'a'b: c", "'a' 'b': c", "'a'\t: b", "a #b: c", "a # b: c", "'a' #: b", "a:# b",
		// No key.
		"-: a", "- a: b", "-  'a': b", "---: a", "?: a", "? a: b", "[a]: b", "[a: b]", "{a: b}", "{}: b", ", a: b", "#: a", "# a: b", "&a: b", "&a b: c", "*a: b", "*a : b", "!a: b", "!!str a: b", "|: a", ">: a", "%a: b", "@a: b", "\x60a: b", "a\tb: c", "a\nb: c", "a\xff: b", "\ufeffa: b", "a\x00: b",
		// Quotes that do not end, or are wrong within.
		"'a: b", `"a: b`, "'", `"`, "'a''", `"a\": b`, `"\q": b`, "'\xff': b", "'a\n': b", "'\t': b", `"\xZZ": b`, `"\ud800": b`,
	} {
		if key, rest, n, ok := tree.Entry(s); !reflect.DeepEqual(key, api.Tree{}) || rest != "" || n != 0 || ok {
			t.Errorf("Entry(%q): %v, %q, %d, %v", s, key, rest, n, ok)
		}
	}
}

func TestEntryWithAKeyThatIsTooLong(t *testing.T) {
	// It is an entry's text, since the rows of one are refused by its key.
	for _, long := range []int{255, 256, 257, 1000, 70000} {
		text := strings.Repeat("k", long)
		for s, n := range map[string]int{text + ": b": long + 2, "'" + text + "': b": long + 4, `"` + text + `" : b`: long + 5} {
			if key, rest, ahead, ok := tree.Entry(s); !flow.Same(key, str(text)) || rest != "b" || ahead != n || !ok {
				t.Errorf("Entry of a key of %d bytes: %q, %d, %v", long, rest, ahead, ok)
			}
		}
	}
}

func TestItemAndEntryOfShortTexts(t *testing.T) {
	shortTexts([]string{"-", " ", "a", ":", "'", `"`, "#", "~"}, 6, func(s string) {
		agreeItem(t, s)
		agreeEntry(t, s)
	})
	shortTexts([]string{"'", ":", " ", "b", `\n`, "\\", "\t", "\xff", "["}, 5, func(s string) {
		agreeEntry(t, "'"+s)
		agreeEntry(t, `"`+s)
		agreeEntry(t, `"a"`+s)
		agreeEntry(t, "'a'"+s)
		agreeEntry(t, "a"+s)
	})
	for n := range 256 {
		b := string([]byte{byte(n)})
		for _, s := range []string{b, b + ":", b + ": a", b + " a", "a" + b, "a:" + b, "a:" + b + "b", "a" + b + ": c", "'a'" + b, "'a'" + b + ": c", "'a':" + b + "c", "-" + b, "- " + b, "'" + b + "': c", `"\` + b + `": c`} {
			agreeItem(t, s)
			agreeEntry(t, s)
		}
	}
}

// P10.2: which value rows have

func TestExample(t *testing.T) {
	means(t, "a:\n  - 1\n  - b: c", "{a: [1, {b: c}]}")
	checkTree(t, []api.Row{row(0, "a:", 1), row(2, "- 1", 2), row(2, "- b: c", 3)}, dict(str("a"), seq(number("1"), dict(str("b"), str("c")))))
}

func TestNoRows(t *testing.T) {
	checkTree(t, nil, null)
	checkTree(t, []api.Row{}, null)
	for _, text := range []string{"\n", "\n\n\n", "   \n", "#", "# a\n", "#a: b\n  # - c\n\n#", "    # a\n# b\n  "} {
		is(t, text, null)
	}
}

func TestOneRow(t *testing.T) {
	for text, line := range map[string]string{
		"a": "a", "a b": "a b", "5": "5", "~": "~", "null": "~", "true": "true", "'a: b'": "'a: b'", `"\n"`: `"\n"`, "[a, b]": "[a, b]", "{a: b}": "{a: b}", "*a": "*a", "&a": "&a", "&a b": "&a b", "!!str 5": "'5'", "!!str": "''", "!!null": "~", "&a !!seq [b]": "&a [b]", "!!map &a {}": "&a {}",
		"-": "[~]", "- a": "[a]", "-  a": "[a]", "- ~": "[~]", "a:": "{a: ~}", "a: b": "{a: b}", "a:   b": "{a: b}", "'a': b": "{'a': b}", "5: b": "{5: b}", "~: b": "{~: b}", "'5': b": "{'5': b}",
		"    a": "a", "    - a": "[a]", "    a: b": "{a: b}", "\n\n# n\n  a\n# n\n\n": "a",
	} {
		means(t, text, line)
	}
}

func TestSeqs(t *testing.T) {
	for text, line := range map[string]string{
		"- a\n- b\n- c":                 "[a, b, c]",
		"-\n- b\n-":                     "[~, b, ~]",
		"- 1\n-   2\n- '3'\n- ~\n- []":  "[1, 2, '3', ~, []]",
		"-\n  a\n-\n    b\n-\n c":       "[a, b, c]",
		"-\n  - a\n  - b\n-\n  - c":     "[[a, b], [c]]",
		"- - a\n  - b\n- - c":           "[[a, b], [c]]",
		"-   - a\n    - b\n- - c":       "[[a, b], [c]]",
		"- - - a\n    - b\n  - c\n- d":  "[[[a, b], c], d]",
		"- -\n- - -":                    "[[~], [[~]]]",
		"- -\n    a\n  -\n      b\n- c": "[[a, b], c]",
		"- a: b\n  c: d\n- e: f":        "[{a: b, c: d}, {e: f}]",
		"-   a: b\n    c: d":            "[{a: b, c: d}]",
		"- a:\n    b\n  c:\n    - d":    "[{a: b, c: [d]}]",
		"-\n  a: b\n  c: d\n- e":        "[{a: b, c: d}, e]",
		"- 'a': b\n  \"c\" : d":         "[{'a': b, \"c\": d}]",
		"- -a\n- --\n- -1":              "[-a, --, -1]",
	} {
		means(t, text, line)
	}
}

func TestMaps(t *testing.T) {
	for text, line := range map[string]string{
		"a: 1\nb: 2\nc: 3":                    "{a: 1, b: 2, c: 3}",
		"a:\nb:\nc: d":                        "{a: ~, b: ~, c: d}",
		"a:\n  b\nc:\n      d":                "{a: b, c: d}",
		"a:\n  b: c\n  d: e\nf: g":            "{a: {b: c, d: e}, f: g}",
		"a:\n  b:\n    c:\n      d\n  e: f":   "{a: {b: {c: d}, e: f}}",
		"a:\n  - b\n  - c\nd:\n - e":          "{a: [b, c], d: [e]}",
		"a:\n  - b: c\n    d: e\n  - f":       "{a: [{b: c, d: e}, f]}",
		"a: 1\na: 2":                          "{a: 1, a: 2}",
		"a : 1\n'b'  : 2\n\"c\": 3":           "{a: 1, 'b': 2, \"c\": 3}",
		"~: 1\ntrue: 2\n5: 3\n'5': 4\na b: 5": "{~: 1, true: 2, 5: 3, '5': 4, a b: 5}",
		"a:b: c\n-d: e\n'': f":                "{a:b: c, -d: e, '': f}",
		"a: b:c\nd: e#f\ng: -h":               "{a: b:c, d: e#f, g: -h}",
	} {
		means(t, text, line)
	}
}

func TestOneValueInOneRowHasAllRowsBehindIt(t *testing.T) {
	// Of the same column, and deeper.
	means(t, "&a\n- 1\n- 2", "&a [1, 2]")
	means(t, "&a\n  - 1\n  - 2", "&a [1, 2]")
	means(t, "&a\nb: 1\nc: 2", "&a {b: 1, c: 2}")
	means(t, "&a\nb", "&a b")
	means(t, "&a # n\n\n\n b", "&a b")
	means(t, "!!seq\n- 1", "[1]")
	means(t, "!!seq\n!!seq\n!!seq\n- 1", "[1]")
	means(t, "  &a\n  - 1\n  - 2", "&a [1, 2]")
	means(t, "-\n  &a\n  - 1\n  - 2\n- 3", "[&a [1, 2], 3]")
	is(t, "|\n  a\n   b\n\n", str("a\n b\n"))
	wrong(t, "a\nb", api.ErrForm, 2)
	wrong(t, "a\n  b", api.ErrForm, 2)
	wrong(t, "a\n- b", api.ErrForm, 2)
	wrong(t, "a\nb: c", api.ErrForm, 2)
	wrong(t, "[]\n\n# n\n  b: c\nd", api.ErrForm, 4)
	wrong(t, "|\na", api.ErrForm, 2)
	wrong(t, "|\n  a\nb", api.ErrForm, 3)
	wrong(t, "|\n  a\n\n# n\n\n  b", api.ErrForm, 6)
	// Below its column none may lie.
	wrong(t, "  a\nb", api.ErrTab, 2)
	wrong(t, "  &a\nb", api.ErrTab, 2)
	wrong(t, "  &a\n - 1", api.ErrTab, 2)
	wrong(t, "  &a\n  - 1\n - 2", api.ErrTab, 3)
	wrong(t, "  &a\n    - 1\n  - 2", api.ErrTab, 3)
	wrong(t, "  |\na", api.ErrTab, 2)
	wrong(t, "  |\n    a\n b", api.ErrTab, 3)
	wrong(t, "  |\n    a\n  b\nc", api.ErrForm, 3)
}

// P10.2: columns

func TestRowsBelowTheColumn(t *testing.T) {
	for text, at := range map[string]int{
		"  - a\n- b":                       2,
		"  a: b\nc: d":                     2,
		"  - a\n  - b\n - c\n- d":          3,
		"a:\n    - b\n  - c":               3,
		"a:\n    b: c\n  d: e":             3,
		"-\n    - b\n  - c":                3,
		"- - a\n - b":                      2,
		"-   - a\n  - b":                   2,
		"- a: b\n c: d":                    2,
		"-    a: b\n    c: d":              2,
		"- - - a\n   - b":                  2,
		"a:\n      b:\n    c\n":            3,
		"a:\n      b:\n        c\n    d\n": 4,
		"  - a\n\n# n\n b":                 4,
		"  a: |\n    b\n c":                3,
	} {
		wrong(t, text, api.ErrTab, at)
	}
	// Empty ones may.
	means(t, "  - a\n# n\n\n  - b", "[a, b]")
	means(t, "- - a\n # n\n# n\n  - b", "[[a, b]]")
}

func TestRowsThatBelongToARow(t *testing.T) {
	// What has a value in its row may have no more.
	for text, at := range map[string]int{
		"- a\n  b":              2,
		"- a\n - b":             2,
		"a: b\n  c":             2,
		"a: b\n  c: d":          2,
		"a: []\n  - c":          2,
		"a: *b\n  c":            2,
		"a: &b c\n  d":          2,
		"a: !!str 5\n  d":       2,
		"a: 'b'\n\n# n\n  c":    4,
		"- - a\n   b":           2,
		"- a: b\n   c: d":       2,
		"- a: b\n  c: d\n   e":  3,
		"a: ~\n  b":             2,
		"a: |\n  b\n# n\n  c":   4,
		"- |\n# n\n  c\n  d":    3,
		"- |\n  # n\n# o\n\n c": 5,
	} {
		wrong(t, text, api.ErrForm, at)
	}
	means(t, "- a\n  # b\n\n    #\n- c", "[a, c]")
	means(t, "a: b\n  # c\n\nd: e", "{a: b, d: e}")
}

func TestRowsThatAreNoPart(t *testing.T) {
	for text, at := range map[string]int{
		"- a\nb":                2,
		"- a\nb: c":             2,
		"- a\n-b":               2,
		"- a\n--":               2,
		"- a\n- b\n[c]\n- d":    3,
		"- a\n&b":               2,
		"- a\n|":                2,
		"a: b\nc":               2,
		"a: b\n- c":             2,
		"a:\n- b":               2,
		"a: b\n'c'":             2,
		"a: b\n'c: d":           2,
		"a: b\nc:d":             2,
		"a: b\n&c d: e":         2,
		"a: b\n? c":             2,
		"a: b\n{c: d}":          2,
		"a: b\n---":             2,
		"- - a\n  b":            2,
		"- - a\n  b: c":         2,
		"- a: b\n  - c":         2,
		"- a: b\n  c":           2,
		"a:\n  - b\n  c":        3,
		"a:\n  b: c\n  - d":     3,
		"- |\n  a\nb":           3,
		"a: |\n  b\n\n\n# n\nc": 6,
	} {
		wrong(t, text, api.ErrForm, at)
	}
}

// P10.2: keys

func TestLongKeys(t *testing.T) {
	for _, c := range []struct {
		key  string
		want string
	}{
		{strings.Repeat("k", 256), strings.Repeat("k", 256)},
		{"'" + strings.Repeat("k", 256) + "'", strings.Repeat("k", 256)},
		{`"` + strings.Repeat(`\x6b`, 256) + `"`, strings.Repeat("k", 256)},
		{`"` + strings.Repeat(`\u00e9`, 128) + `"`, strings.Repeat("\u00e9", 128)},
		{"'" + strings.Repeat("''", 256) + "'", strings.Repeat("'", 256)},
		{strings.Repeat("\u20ac", 85) + "a", strings.Repeat("\u20ac", 85) + "a"},
		{strings.Repeat("7", 256), strings.Repeat("7", 256)},
	} {
		is(t, c.key+": a", dict(str(c.want), str("a")))
		is(t, "- "+c.key+": a", seq(dict(str(c.want), str("a"))))
		is(t, "x: y\n"+c.key+":\n  a", dict(str("x"), str("y"), str(c.want), str("a")))
	}
	for _, key := range []string{
		strings.Repeat("k", 257), "'" + strings.Repeat("k", 257) + "'", `"` + strings.Repeat(`\x6b`, 257) + `"`, `"` + strings.Repeat(`\u00e9`, 129) + `"`, "'" + strings.Repeat("''", 257) + "'", strings.Repeat("\u20ac", 86), strings.Repeat("7", 257), strings.Repeat("k", 5000),
	} {
		wrong(t, key+": a", api.ErrMany, 1)
		wrong(t, key+":", api.ErrMany, 1)
		wrong(t, "- "+key+": a", api.ErrMany, 1)
		wrong(t, "x: y\n\n"+key+":\n  [", api.ErrMany, 3)
		wrong(t, "x:\n  "+key+": a", api.ErrMany, 2)
		wrong(t, key+": [", api.ErrMany, 1)
		wrong(t, key+": a\n  b", api.ErrMany, 1)
		// In one line layer 9 reads them.
		means(t, "{"+key+": a}", "{"+key+": a}")
	}
}

// P10.2: what a rest means

func TestRestThatIsNothing(t *testing.T) {
	for _, begin := range []struct{ text, ahead, end string }{{"-", "[", "]"}, {"a:", "{a: ", "}"}, {"'a' :", "{'a': ", "}"}, {"- -", "[[", "]]"}, {"- a:", "[{a: ", "}]"}} {
		deep := strings.Repeat(" ", 9)
		for below, value := range map[string]string{
			"": "~", "\n\n\n": "~", "\n# n\n" + deep + "# n": "~",
			"\n" + deep + "b": "b", "\n\n# n\n" + deep + "b": "b", "\n" + deep + "- b\n" + deep + "- c": "[b, c]", "\n" + deep + "b: c\n" + deep + "d: e": "{b: c, d: e}", "\n" + deep + "*b": "*b", "\n" + deep + "&b c": "&b c", "\n" + deep + "&b\n" + deep + "- c": "&b [c]", "\n" + deep + "~": "~", "\n" + deep + "!!str 5": "'5'", "\n" + deep + "[b]": "[b]",
		} {
			for _, note := range []string{"", " #", " # n", "   #n: m", "  # - |"} {
				means(t, begin.text+note+below, begin.ahead+value+begin.end)
			}
		}
		// Properties of it.
		for words, value := range map[string]string{
			"&b": "&b ~", "!!null": "~", "!!str": "''", "&b !!null": "&b ~", "!!null   &b": "&b ~", "&b  !!str": "&b ''", "!!str &b": "&b ''",
		} {
			for _, note := range []string{"", " #", " # n", "   #n: m"} {
				means(t, begin.text+"  "+words+note, begin.ahead+value+begin.end)
				means(t, begin.text+" "+words+note+"\n\n    # n\n", begin.ahead+value+begin.end)
			}
		}
		for _, tag := range []string{"!!bool", "!!int", "!!seq", "!!map"} {
			wrong(t, begin.text+" "+tag, api.ErrTag, 1)
			wrong(t, "\n"+begin.text+" &b "+tag+" # n\n\n  # n", api.ErrTag, 2)
		}
	}
}

func TestPropertiesAheadOfTheValueOfRows(t *testing.T) {
	for text, line := range map[string]string{
		"a: &b\n  - c\n  - d": "{a: &b [c, d]}", "a: &b\n  c: d": "{a: &b {c: d}}", "a: &b\n  c": "{a: &b c}", "a: &b\n  5": "{a: &b 5}", "a: &b\n  ~": "{a: &b ~}", "a: &b\n  []": "{a: &b []}", "a: &b\n  'c'": "{a: &b 'c'}", "a: &b\n  !!str 5": "{a: &b '5'}",
		"a: !!seq\n  - c": "{a: [c]}", "a: !!map\n  c: d": "{a: {c: d}}", "a: !!seq\n  []": "{a: []}", "a: !!map\n  {}": "{a: {}}", "a: !!seq\n  !!seq [c]": "{a: [c]}", "a: !!seq # n\n\n  - c": "{a: [c]}",
		"a: &b !!seq\n  - c": "{a: &b [c]}", "a: !!seq &b\n  - c": "{a: &b [c]}", "a: !!map   &b   # n\n  c: d": "{a: &b {c: d}}",
		"- &b\n  - c": "[&b [c]]", "- !!map\n  c: d": "[{c: d}]", "- &b !!seq\n  - c\n- d": "[&b [c], d]",
		"!!map\na: b": "{a: b}", "&b !!seq # n\n\n- c": "&b [c]",
		"a: &b\n  - &c d\n  - &b e": "{a: &b [&c d, &b e]}",
	} {
		means(t, text, line)
	}
	is(t, "a: &b\n  |\n    c", dict(str("a"), anchored("b", str("c\n"))))
	for text, at := range map[string]int{
		// An Alias.
		"a: &b\n  *c": 1, "a: !!seq\n  *c": 1, "- &b\n  *b": 1, "&b\n*c": 1,
		// It has an Anchor.
		"a: &b\n  &c d": 1, "a: &b\n  &b d": 1, "a: &b\n  &c": 1, "a: &b\n  &c\n  - d": 1, "a: !!seq\n  &c [d]": 1, "a: !!seq\n  &c\n  - d": 1, "&b\n&c\n- d": 1, "x: y\na: &b\n\n  &c []": 2, "a: !!map\n  &c [d]": 1, "a: &b\n  &c |\n    d": 1, "&b\n!!seq\n&c\n- d": 2,
		// A scalar and a tag.
		"a: !!str\n  b": 1, "a: !!str\n  'b'": 1, "a: !!int\n  5": 1, "a: !!int\n  b": 1, "a: !!null\n  ~": 1, "a: !!bool\n  true": 1, "a: !!seq\n  b": 1, "a: &b !!str\n  c": 1, "a: !!str &b\n  c": 1, "a: !!str\n  |\n    b": 1, "- !!map\n  5": 1, "!!str\nb": 1, "!!null\n!!null": 1, "!!str\n!!str": 1, "x: y\na: !!str\n  b": 2,
	} {
		wrong(t, text, api.ErrForm, at)
	}
	// Of a Seq and of a Map theirs.
	for i, tag := range []string{"!!null", "!!bool", "!!int", "!!str", "!!seq", "!!map"} {
		for kind, text := range map[int]string{5: "- c", 6: "c: d"} {
			for _, words := range []string{tag, "&b " + tag, tag + " &b"} {
				for _, ahead := range []string{"a: ", "- ", ""} {
					l := lines(t, ahead+words+"\n  "+text)
					if i+1 == kind {
						agree(t, l)
					} else {
						checkFault(t, l, api.ErrTag, 1)
					}
				}
			}
		}
	}
}

func TestRestThatIsAStyle(t *testing.T) {
	for mark, text := range map[string]string{"|": "a\n b\n\nc\n", "|-": "a\n b\n\nc", "|+": "a\n b\n\nc\n\n", ">": "a\n b\n\nc\n", ">-": "a\n b\n\nc", ">+": "a\n b\n\nc\n\n"} {
		for _, words := range []string{"", "&x ", "!!str ", "&x !!str ", "!!str   &x  "} {
			value := str(text)
			if strings.Contains(words, "&x") {
				value.Anchor = "x"
			}
			for _, note := range []string{"", " #", " # n", "\t# n", "   #|"} {
				head := words + mark + note
				is(t, head+"\n  a\n   b\n\n  c\n\n", value)
				is(t, head+"\n  a\n   b\n\n  c\n\n# n", value)
				is(t, "- "+head+"\n  a\n   b\n\n  c\n\n- d", seq(value, str("d")))
				is(t, "-   "+head+"\n a\n  b\n\n c\n\n# n\n- d", seq(value, str("d")))
				is(t, "k: "+head+"\n    a\n     b\n\n    c\n\nl: m", dict(str("k"), value, str("l"), str("m")))
				is(t, "- k: "+head+"\n   a\n    b\n\n   c\n\n  l: m", seq(dict(str("k"), value, str("l"), str("m"))))
				is(t, "- - "+head+"\n   a\n    b\n\n   c\n\n  - m", seq(seq(value, str("m"))))
				is(t, "k:\n  "+head+"\n    a\n     b\n\n    c\n\nl: m", dict(str("k"), value, str("l"), str("m")))
			}
		}
	}
	is(t, "a: >-\n  b\n  c\nd: |", dict(str("a"), str("b c"), str("d"), str("")))
	// In a block nothing is read but its lines.
	is(t, "- |\n  a: [\n  - 'b\n  # c\n  &d *e\n  |\n- f", seq(str("a: [\n- 'b\n# c\n&d *e\n|\n"), str("f")))
	is(t, "a: |\n  # b\n   c\n  ---\nd: e", dict(str("a"), str("# b\n c\n---\n"), str("d"), str("e")))
	is(t, "a: |\n\n\n  b\n", dict(str("a"), str("\n\nb\n")))
	is(t, "a: |+\n\n\nb: |", dict(str("a"), str("\n\n"), str("b"), str("")))
	is(t, "a: |+\nb:", dict(str("a"), str(""), str("b"), null))
	// Its end is at the first row that has a text and does not lie deeper, also if that is a note.
	is(t, "a: |+\n  b\n\n# n\n\nc:", dict(str("a"), str("b\n\n"), str("c"), null))
}

func TestRestThatIsNoStyle(t *testing.T) {
	for _, mark := range []string{"||", "|2", "|-+", "|#", "|#n", "| a", "|a", ">>", ">-- # n", "|\u00a0# n", "&x|", "!!str|", "&x &y |", "!!str !!str |"} {
		wrong(t, mark+"\n  a", api.ErrForm, 1)
		wrong(t, "- "+mark+"\n  a", api.ErrForm, 1)
		wrong(t, "\nk: "+mark, api.ErrForm, 2)
	}
}

func TestTagsOfABlock(t *testing.T) {
	for _, tag := range []string{"!!null", "!!bool", "!!int", "!!seq", "!!map"} {
		for _, words := range []string{tag, "&x " + tag, tag + " &x"} {
			for _, below := range []string{"", "\n  a", "\n  5\n\n", "\n  a\n   b"} {
				wrong(t, words+" |"+below, api.ErrTag, 1)
				wrong(t, "- "+words+" >-"+below, api.ErrTag, 1)
				wrong(t, "x: y\nk: "+words+" |+ # n"+below, api.ErrTag, 2)
			}
		}
	}
}

func TestLayer8Faults(t *testing.T) {
	for text, at := range map[string]int{
		"|\n    a\n  b":             3,
		"- |\n    a\n\n  b\n c":     4,
		"a: >-\n    b\n    c\n # d": 4,
		"- a: |\n      b\n    c":    3,
		"a: !!int |\n    b\n  c":    3,
		"a: &x |\n    b\n  c":       3,
		"a: |+\n  b\n\n # n":        4,
	} {
		wrong(t, text, api.ErrTab, at)
	}
	checkFault(t, []api.Row{row(0, "a: |", 1), row(2, "b", 2), row(2+65537, "c", 3)}, api.ErrTab, 3)
	checkTree(t, []api.Row{row(0, "a: |-", 1), row(2, "b", 2), row(2+65536, "c", 3)}, dict(str("a"), str("b\n"+strings.Repeat(" ", 65536)+"c")))
	// Of what is no text no tree is made.
	checkFault(t, []api.Row{row(0, "a: |", 1), row(2, "b\xff", 2)}, api.ErrMany, 0)
}

func TestRestOfAnItemThatIsAnItemOrAnEntry(t *testing.T) {
	means(t, "- - a", "[[a]]")
	means(t, "-  -   a: b\n       c: d\n   - e", "[[{a: b, c: d}, e]]")
	means(t, "- - - -\n- -\n  -\n    - a", "[[[[~]]], [~, [a]]]")
	means(t, "-\n  - - a: b\n      c: d\n    -\n      e: f\n- g", "[[[{a: b, c: d}, {e: f}]], g]")
	means(t, "- a:\n    - b\n  c: d", "[{a: [b], c: d}]")
	// The column is where it stands.
	wrong(t, "- a: b\n c: d", api.ErrTab, 2)
	wrong(t, "- a: b\n   c: d", api.ErrForm, 2)
	wrong(t, "- a:\n  - b", api.ErrForm, 2)
	wrong(t, "-  - a\n  - b", api.ErrTab, 2)
	wrong(t, "-  - a\n    - b", api.ErrForm, 2)
	is(t, "- a: |\n   b\n  c: d", seq(dict(str("a"), str("b\n"), str("c"), str("d"))))
	wrong(t, "- a: |\n  b", api.ErrForm, 2)
	wrong(t, "- a: |\n b", api.ErrTab, 2)
}

func TestRestInOneLine(t *testing.T) {
	for _, begin := range []struct{ text, ahead, end string }{{"- ", "[", "]"}, {"a: ", "{a: ", "}"}, {"- - ", "[[", "]]"}, {"- a: ", "[{a: ", "}]"}, {"", "", ""}, {"-\n  ", "[", "]"}, {"a:\n   ", "{a: ", "}"}} {
		for rest, value := range map[string]string{
			"b": "b", "b c": "b c", "5": "5", "~": "~", "null": "~", "true": "true", "'b'": "'b'", `"b\n"`: `"b\n"`, "[b, c]": "[b, c]", "{b: c}": "{b: c}", "*b": "*b", "b:c": "b:c", "b#c": "b#c", "b, c": "'b, c'", "-1": "-1", "-b": "-b",
			"&b c": "&b c", "&b   5": "&b 5", "&b [c]": "&b [c]", "&b 'c'": "&b 'c'", "!!str 5": "'5'", "!!int '5'": "5", "!!str ~": "'~'", "!!seq []": "[]", "&b !!str 5": "&b '5'", "!!str &b 5": "&b '5'", "!!map   &b   {c: d}": "&b {c: d}", "!!null ~": "~",
		} {
			at := 1 + strings.Count(begin.text, "\n")
			for _, behind := range []string{"", "   ", " #", " # n", "    #n: m", "  # '"} {
				means(t, begin.text+rest+behind, begin.ahead+value+begin.end)
			}
			wrong(t, "\n"+begin.text+rest+" # n\n         x", api.ErrForm, at+2)
		}
		// Something else behind it.
		for _, rest := range []string{"'b' c", "'b'c", "'b'#", "'b'\t# n", `"b" "c"`, "[b] c", "[b]#n", "[b], c", "{b: c} d", "{}{}", "*b c", "*b#n", "*b, c", "&b 'c' d", "!!str 'c' d", "[] :", "'b':c", "&b 'c': d", "*b : c", "&b c: d", "!!str c: d", ": b", ":", "!!str |a"} {
			wrong(t, begin.text+rest, api.ErrForm, 1+strings.Count(begin.text, "\n"))
		}
	}
	// Behind a key no item and no entry stands.
	for _, text := range []string{"a: - b", "a: -", "a: b: c", "a: b:", "a: 'b': c", "- a: - b", "- a: b: c", "- a: b:", "&x - b", "&x b: c", "- &x - b", "- &x b: c", "- !!seq - b", "- !!str b: c", "a: &x - b"} {
		wrong(t, text, api.ErrForm, 1)
	}
}

func TestLayer9Faults(t *testing.T) {
	deep := strings.Repeat("[", 65) + strings.Repeat("]", 65)
	for rest, why := range map[string]api.Errno{
		"[b": api.ErrEnd, "{b": api.ErrEnd, "{b: c": api.ErrEnd, "'b": api.ErrEnd, `"b`: api.ErrEnd, "*": api.ErrEnd, "&": api.ErrEnd, "!!": api.ErrEnd, "&b !!": api.ErrEnd, "!!str &": api.ErrEnd,
		"[,]": api.ErrForm, "[b}": api.ErrForm, `"\q"`: api.ErrForm, "-": api.ErrForm, "- b": api.ErrForm, "? b": api.ErrForm, "|a": api.ErrForm, "%": api.ErrForm, "@": api.ErrForm, "!b": api.ErrForm, "---": api.ErrForm, "b\tc": api.ErrForm,
		"&b &c d": api.ErrForm, "&b &c": api.ErrForm, "!!str !!str d": api.ErrForm, "!!str !!int": api.ErrForm, "&b !!str &c": api.ErrForm, "&b *c": api.ErrForm, "!!str *c": api.ErrForm, "!!no b": api.ErrForm, "!!no": api.ErrForm, "!!strs": api.ErrForm, "&b.c d": api.ErrForm, "&b[c]": api.ErrForm, "& b": api.ErrForm, "!! b": api.ErrForm, "&" + strings.Repeat("n", 33): api.ErrForm, "*" + strings.Repeat("n", 33): api.ErrForm, "&\u00e9": api.ErrForm, "!!str\tb": api.ErrForm,
		"!!int b": api.ErrTag, "!!seq {}": api.ErrTag, "&b !!null 5": api.ErrTag, "!!map &b []": api.ErrTag, "[!!int b]": api.ErrTag, "{b: !!seq}": api.ErrTag, "!!int b # n": api.ErrTag, "!!int b: c": api.ErrTag,
		deep: api.ErrDeep, "&b " + deep: api.ErrDeep,
	} {
		if rest[0] != '-' {
			wrong(t, rest, why, 1)
			wrong(t, "- "+rest, why, 1)
			wrong(t, "-\n\n  "+rest+"\n  x", why, 3)
		}
		wrong(t, "a: "+rest, why, 1)
		wrong(t, "x: y\n\na: "+rest+"\nb: [", why, 3)
		wrong(t, "- a: "+rest+"\n   - x", why, 1)
	}
	checkFault(t, []api.Row{row(0, "- '\xff'", 7)}, api.ErrUtf, 7)
	checkFault(t, []api.Row{row(0, "a: \"\x00\"", 7)}, api.ErrUtf, 7)
	checkFault(t, []api.Row{row(0, "'\n'", 7)}, api.ErrUtf, 7)
	checkFault(t, []api.Row{row(0, "a\xff", 7)}, api.ErrForm, 7)
}

// P10.2: limits

// nested are rows of so many Seqs or Maps within one another, each in rows of its own, and what stands at last.
func nested(begins []string, deep int, last string) []api.Row {
	var l []api.Row
	for i := range deep {
		l = append(l, row(2*i, begins[i%len(begins)], i+1))
	}
	return append(l, row(2*deep, last, deep+1))
}

func TestDeep(t *testing.T) {
	for _, begins := range [][]string{{"-"}, {"a:"}, {"-", "a:"}, {"'a':", "- # n", "b: !!seq", "-"}, {"- &x"}, {"a: !!map"}} {
		for _, last := range []string{"- b", "b: c", "-", "b:"} {
			kind := "!!seq"
			if last[0] == 'b' {
				kind = "!!map"
			}
			l := nested(begins, 63, last)
			l[62].Text = strings.NewReplacer("!!seq", kind, "!!map", kind).Replace(l[62].Text)
			got, f := tree.Parse(l)
			if f != (api.Fault{}) || !flow.Right(got) || deepOf(got) != 64 {
				t.Fatalf("%q, %q: %v, %d deep", begins, last, f, deepOf(got))
			}
			for _, deep := range []int{64, 65, 70, 300} {
				checkFault(t, nested(begins, deep, last), api.ErrDeep, 65)
			}
		}
	}
	// In one row.
	for _, begin := range []string{"- ", "-   "} {
		is(t, strings.Repeat(begin, 64)+"a", nestedSeqs(64, str("a")))
		is(t, strings.Repeat(begin, 63)+"a: b", nestedSeqs(63, dict(str("a"), str("b"))))
		is(t, strings.Repeat(begin, 64)+"|\n"+strings.Repeat(" ", 300)+"a", nestedSeqs(64, str("a\n")))
		wrong(t, strings.Repeat(begin, 65)+"a", api.ErrDeep, 1)
		wrong(t, "\n"+strings.Repeat(begin, 64)+"a: b", api.ErrDeep, 2)
		wrong(t, strings.Repeat(begin, 65)+"[", api.ErrDeep, 1)
		wrong(t, "x:\n  "+strings.Repeat(begin, 64)+"a", api.ErrDeep, 2)
		checkFault(t, []api.Row{row(0, strings.Repeat(begin, 100000)+"a", 7)}, api.ErrDeep, 7)
	}
	// A value's first row, whatever it has.
	for _, last := range []string{"b", "[", "&x", "|", "*x"} {
		checkFault(t, nested([]string{"-"}, 64, last), api.ErrDeep, 65)
		checkFault(t, nested([]string{"a:"}, 64, last), api.ErrDeep, 65)
	}
	// Side by side they are not within one another.
	wide := nested([]string{"-"}, 63, "- a")
	for n := range 100 {
		wide = append(wide, row(126, "- b", 100+n))
	}
	if got, f := tree.Parse(wide); f != (api.Fault{}) || deepOf(got) != 64 {
		t.Fatal(f)
	}
}

func TestDeepInOneLine(t *testing.T) {
	// Layer 9 counts its own brackets alone; what is too deep with both may not be.
	for outer := range 65 {
		for _, inner := range []int{64 - outer, 65 - outer} {
			l := lines(t, strings.Repeat("- ", outer)+strings.Repeat("[", inner)+strings.Repeat("]", inner))
			switch {
			case inner == 0:
			case inner == 65:
				checkFault(t, l, api.ErrDeep, 1)
			case outer+inner == 65:
				checkFault(t, l, api.ErrMany, 0)
			default:
				checkTree(t, l, nestedSeqs(63, seq()))
			}
		}
	}
	l := nested([]string{"a:"}, 63, "a: {}")
	checkFault(t, l, api.ErrMany, 0)
	l[63].Text = "a: {"
	checkFault(t, l, api.ErrEnd, 64)
}

func nestedSeqs(deep int, t api.Tree) api.Tree {
	for range deep {
		t = seq(t)
	}
	return t
}

func deepOf(t api.Tree) int {
	deep := 0
	for _, kid := range t.Kids {
		deep = max(deep, deepOf(kid))
	}
	if t.Kind == api.Seq || t.Kind == api.Map {
		deep++
	}
	return deep
}

func TestManyParts(t *testing.T) {
	items := func(count int) string { return strings.Repeat("- 1\n", count) }
	entries := func(count int) string { return strings.Repeat("a: 1\n", count) }
	for text, isThere := range map[string]bool{
		items(4095): true, items(4096): false, items(10000): false,
		entries(2047): true, entries(2048): false,
		entries(2047) + "b: []": false, "- &x\n" + items(4094): true,
		"- [1, 2]\n" + items(4092): true, "- [1, 2]\n" + items(4093): false,
		"- a: 1\n" + items(4092): true, "- a: 1\n" + items(4093): false,
		"- a:\n  b: |\n" + items(4090): true, "- a:\n  b: |\n" + items(4091): false,
	} {
		l := lines(t, text)
		got, f := tree.Parse(l)
		if !isThere {
			checkFault(t, l, api.ErrMany, 0)
		} else if f != (api.Fault{}) || !flow.Right(got) {
			t.Errorf("%.40q, %d rows: %v", text, len(l), f)
		}
	}
	if got, f := tree.Parse(lines(t, items(4095))); len(got.Kids) != 4095 || f != (api.Fault{}) {
		t.Error(len(got.Kids), f)
	}
	// All other faults come ahead of it.
	wrong(t, items(5000)+"- [", api.ErrEnd, 5001)
	wrong(t, items(5000)+"a", api.ErrForm, 5001)
	wrong(t, " - 1\n"+strings.Repeat(" - 1\n", 5000)+"- 1", api.ErrTab, 5002)
	wrong(t, "!!map\n"+items(5000), api.ErrTag, 1)
}

// P10.2: which fault is told

func TestTheFirstFaultIsTold(t *testing.T) {
	long := strings.Repeat("k", 257)
	for _, c := range []struct {
		text string
		why  api.Errno
		at   int
	}{
		// By the rows.
		{"- [\n- '", api.ErrEnd, 1},
		{"- a\n- !!int b\n- [\nc", api.ErrTag, 2},
		{"- a\nb\n- [", api.ErrForm, 2},
		{"  - [\n- a", api.ErrEnd, 1},
		{"  - a\n- [", api.ErrTab, 2},
		{"  - a\nb", api.ErrTab, 2},
		{"  a: b\nc", api.ErrTab, 2},
		{"a: [\n  b", api.ErrEnd, 1},
		{"a: b\n  [", api.ErrForm, 2},
		{"a:\n    - b\n  - [\nc", api.ErrTab, 3},
		{"a:\n    - [\n  - b\nc", api.ErrEnd, 2},
		{"a:\n  - b\n  c: [\nd", api.ErrForm, 3},
		{"a: b\n" + long + ": [\n- c", api.ErrMany, 2},
		{"a: [\n" + long + ": b", api.ErrEnd, 1},
		{"a: b\nc\n" + long + ": b", api.ErrForm, 2},
		{"- |\n    a\n  b\nc", api.ErrTab, 3},
		{"- |\n  a\nb\n- [", api.ErrForm, 3},
		{"  &a\n  - [\nb", api.ErrEnd, 2},
		{"  &a\n  - b\n  c\nd", api.ErrForm, 3},
		{"  a\n    b\nc", api.ErrForm, 2},
		// A tag's behind its value.
		{"a: !!map\n  - [\nb", api.ErrEnd, 2},
		{"a: !!map\n  - b\n  c\nd", api.ErrForm, 3},
		{"a: !!map\n    - b\n  - c", api.ErrTab, 3},
		{"a: !!map\n  - b\nc: [", api.ErrTag, 1},
		{"a: !!map\n  - b\nc", api.ErrTag, 1},
		{"a: !!map\n  - !!int b", api.ErrTag, 2},
		{"a: !!map\n  - b\n  - !!seq\n    c: d", api.ErrTag, 3},
		{"a: !!int |\n    b\n  c", api.ErrTab, 3},
		{"a: !!int |\n  b\nc", api.ErrTag, 1},
		{"a: !!int [\n  b", api.ErrEnd, 1},
		{"a: !!int b\n  c", api.ErrTag, 1},
		{"!!map\n- a\nb", api.ErrForm, 3},
		{"  !!map\n  - a\nb", api.ErrTab, 3},
		{"!!int |\n  a\nb", api.ErrTag, 1},
		{"  !!int |\n    a\nb", api.ErrTag, 1},
		{"a: !!int\n\n# n\nb: [", api.ErrTag, 1},
		// And so what properties may not stand ahead of.
		{"a: &b\n  &c [", api.ErrEnd, 2},
		{"a: &b\n  &c d\n  e", api.ErrForm, 3},
		{"a: &b\n  &c d\nb: [", api.ErrForm, 1},
		{"a: !!str\n  b\nb: [", api.ErrForm, 1},
		{"a: !!str\n  !!int b", api.ErrTag, 2},
		// Both of one row.
		{"a: !!map\n  &c\n  - d", api.ErrForm, 1},
		{"a: !!int\n  !!seq\n  &c\n  - d", api.ErrForm, 2},
	} {
		wrong(t, c.text, c.why, c.at)
	}
	// Of a row that lies too deep, and below the column, and is wrong.
	deep := nested([]string{"-"}, 63, "- - [")
	checkFault(t, deep, api.ErrDeep, 64)
	deep[63].Text = "- " + long + ": ["
	checkFault(t, deep, api.ErrDeep, 64)
	deep[63].Text = "- !!no"
	checkFault(t, deep, api.ErrForm, 64)
	deep = append(nested([]string{"-"}, 63, "-"), row(126, "- - a", 100), row(125, "b", 101))
	checkFault(t, deep, api.ErrDeep, 100)
	deep[64].Col = 125
	checkFault(t, deep, api.ErrTab, 100)
}

func TestFaultsHaveTheirRowsAt(t *testing.T) {
	// The number is the row's own, whatever it is.
	for _, at := range []int{0, 1, 9, -5, math.MaxInt, math.MinInt} {
		checkFault(t, []api.Row{row(0, "[", at)}, api.ErrEnd, at)
		checkFault(t, []api.Row{row(0, "- a", 1), row(0, "b", at)}, api.ErrForm, at)
		checkFault(t, []api.Row{row(1, "- a", 1), row(0, "b", at)}, api.ErrTab, at)
		checkFault(t, []api.Row{row(0, "a: !!seq", at), row(2, "b: c", 1)}, api.ErrTag, at)
		checkFault(t, []api.Row{row(0, "|", 1), row(2, "b", 2), row(1, "b", at)}, api.ErrTab, at)
		checkFault(t, []api.Row{row(0, strings.Repeat("k", 257)+":", at)}, api.ErrMany, at)
		checkFault(t, []api.Row{row(0, strings.Repeat("- ", 65), at)}, api.ErrDeep, at)
	}
}

// P10.2: all of it against the words written a second time

func rowsAt(cols []int, texts ...string) []api.Row {
	var list []api.Row
	for _, col := range cols {
		for _, text := range texts {
			list = append(list, row(col, text, 0))
		}
	}
	return list
}

func agreeOnShortLists(t *testing.T, parts []api.Row, long int) {
	t.Helper()
	read, refused := 0, 0
	shortLists(parts, long, func(list []api.Row) {
		l := slices.Clone(list)
		for i := range l {
			l[i].At = i + 1
		}
		if agree(t, l) {
			refused++
		} else {
			read++
		}
	})
	if read < 50 || refused < 50 {
		t.Errorf("%d are read, %d refused", read, refused)
	}
}

func TestShortListsOfRows(t *testing.T) {
	agreeOnShortLists(t, rowsAt([]int{0, 1, 2}, "- a", "-", "a: b", "a:", "a", "&x", "!!seq", "|", "", "# n", "- - b", "- k: v", "*x", "[", "!!int |", "- &x", "k: !!map", "k: |+"), 3)
	agreeOnShortLists(t, rowsAt([]int{0, 1, 2}, "-", "a:", "&x", "!!map"), 5)
	agreeOnShortLists(t, rowsAt([]int{0, 1, 2, 3}, "- - a", "- a: b", "a: b", "# n"), 4)
	agreeOnShortLists(t, rowsAt([]int{0, 1, 2}, "- |+", ">", "", "# n", "a"), 5)
	agreeOnShortLists(t, rowsAt([]int{0, 2}, "&x", "!!str", "!!seq # n", "*y", "b", "- c", "|-", "- !!str"), 4)
}

func TestDrawnRows(t *testing.T) {
	draw := rand.New(rand.NewSource(10))
	read := 0
	for range 150000 {
		if !agree(t, drawnRows(draw)) {
			read++
		}
	}
	if read < 20000 {
		t.Errorf("only %d of them are read", read)
	}
}

func TestTurnedRows(t *testing.T) {
	draw := rand.New(rand.NewSource(11))
	refused := 0
	for range 40000 {
		l := numbered(strewn(draw, laid(draw, drawnTree(draw, 4), 0)))
		for range 1 + draw.Intn(2) {
			at := draw.Intn(len(l))
			switch draw.Intn(5) {
			case 0:
				l = slices.Delete(l, at, at+1)
			case 1:
				l = slices.Insert(l, at, l[draw.Intn(len(l))])
			case 2:
				l[at].Col = max(0, l[at].Col+draw.Intn(5)-2)
			case 3:
				l[at].Text = drawnText(draw)
			case 4:
				l[at].Text = l[at].Text[:draw.Intn(len(l[at].Text)+1)]
			}
			if len(l) == 0 {
				break
			}
		}
		if agree(t, l) {
			refused++
		}
	}
	if refused < 10000 {
		t.Errorf("only %d of them are refused", refused)
	}
}

// P10.3

func TestOneLineIsReadAsLayer9Does(t *testing.T) {
	draw := rand.New(rand.NewSource(12))
	for range 30000 {
		want := drawnTree(draw, 4)
		text, e := flow.Write(want)
		if e != api.OK {
			t.Fatal(e)
		}
		// Cut off, most of them have a fault.
		if draw.Intn(3) == 0 {
			text = text[:draw.Intn(len(text)+1)]
		}
		text = strings.Trim(text, " ")
		_, _, isItem := wantItem(text)
		_, _, _, isEntry := wantEntry(text)
		if text == "" || isItem || isEntry {
			continue
		}
		want, f := flow.Whole(text)
		if f.Why != api.OK {
			checkFault(t, []api.Row{row(3, text, 9)}, f.Why, 9)
			checkFault(t, []api.Row{row(3, "- "+text, 9)}, f.Why, 9)
			checkFault(t, []api.Row{row(0, "a:", 1), row(3, text, 9)}, f.Why, 9)
			continue
		}
		checkTree(t, []api.Row{row(3, text, 9)}, want)
		checkTree(t, []api.Row{row(3, text+" # n", 9)}, want)
		checkTree(t, []api.Row{row(3, "- "+text, 9)}, seq(want))
		checkTree(t, []api.Row{row(3, "-", 1), row(4, text, 9)}, seq(want))
		checkTree(t, []api.Row{row(3, "'a':  "+text, 9)}, dict(str("a"), want))
	}
}

// P10.4

// spread are rows of a tree, one part a row: what has no Kids stands in a row of its own.
func spread(t api.Tree, col int) []api.Row {
	var l []api.Row
	if len(t.Kids) == 0 {
		text, _ := flow.Write(t)
		return []api.Row{row(col, text, 0)}
	}
	if t.Anchor != "" {
		l = append(l, row(col, "&"+t.Anchor, 0))
	}
	for i, kid := range t.Kids {
		switch {
		case t.Kind == api.Map && i%2 == 0:
			l = append(l, row(col, flow.Scalar(kid, false)+":", 0))
			continue
		case t.Kind == api.Seq:
			l = append(l, row(col, "-", 0))
		}
		l = append(l, spread(kid, col+2)...)
	}
	return l
}

func TestATreeLaidOverLinesIsRead(t *testing.T) {
	draw := rand.New(rand.NewSource(13))
	for range 30000 {
		want := drawnTree(draw, 5)
		checkTree(t, spread(want, draw.Intn(3)), want)
	}
}

func TestATreeLaidInAnyFormIsRead(t *testing.T) {
	draw := rand.New(rand.NewSource(14))
	for range 60000 {
		want := drawnTree(draw, 5)
		l := numbered(laid(draw, want, draw.Intn(4)))
		checkTree(t, l, want)
		// Also as a text.
		again, f := rows.Read(rows.Write(l))
		if f != (api.Fault{}) {
			t.Fatalf("%v: %v", l, f)
		}
		checkTree(t, again, want)
	}
}

// P10.5

func TestEmptyRowsTurnNothing(t *testing.T) {
	draw := rand.New(rand.NewSource(15))
	for range 40000 {
		want := drawnTree(draw, 4)
		checkTree(t, numbered(strewn(draw, laid(draw, want, draw.Intn(4)))), want)
	}
}

func TestEmptyRowsTurnNoFault(t *testing.T) {
	draw := rand.New(rand.NewSource(16))
	refused := 0
	for range 60000 {
		var l, more []api.Row
		for _, next := range drawnRows(draw) {
			// No blocks, and so no rows that count there alone.
			if strings.ContainsAny(next.Text, "|>") || isEmptyRow(next) {
				continue
			}
			for draw.Intn(2) == 0 {
				more = append(more, row(draw.Intn(9)-1, one(draw, "", "#", "# a", "#- b: |"), -1))
			}
			l, more = append(l, next), append(more, next)
		}
		want, fault := tree.Parse(l)
		if fault.Why != api.OK {
			refused++
			checkFault(t, more, fault.Why, fault.At)
		} else {
			checkTree(t, more, want)
		}
	}
	if refused < 10000 {
		t.Errorf("only %d of them are refused", refused)
	}
}

func TestEmptyRowsInBlocks(t *testing.T) {
	is(t, "- |\n  a\n\n  b\n- c", seq(str("a\n\nb\n"), str("c")))
	is(t, "- |\n  a\n  # n\n  b\n- c", seq(str("a\n# n\nb\n"), str("c")))
	is(t, "- |\n\n  a\n- c", seq(str("\na\n"), str("c")))
	is(t, "- |+\n  a\n\n\n- c", seq(str("a\n\n\n"), str("c")))
	is(t, "- |\n  a\n\n\n- c", seq(str("a\n"), str("c")))
	is(t, "- >\n  a\n\n  b\n- c", seq(str("a\nb\n"), str("c")))
	is(t, "- |+\n  a\n# n\n\n- c", seq(str("a\n"), str("c")))
	is(t, "a:\n  - b: |+\n      c\n\n  - d\n", dict(str("a"), seq(dict(str("b"), str("c\n\n")), str("d"))))
	is(t, "a:\n  - b: |+\n      c\n\ne: d\n", dict(str("a"), seq(dict(str("b"), str("c\n\n"))), str("e"), str("d")))
}

// P10.6

func TestMovedColumns(t *testing.T) {
	draw := rand.New(rand.NewSource(17))
	for n := range 60000 {
		l := drawnRows(draw)
		if n%3 == 0 {
			l = numbered(strewn(draw, laid(draw, drawnTree(draw, 4), 0)))
		}
		want, fault := tree.Parse(l)
		for _, by := range []int{1, 2, 7, 65536, math.MaxInt - 1000} {
			there := slices.Clone(l)
			for i := range there {
				there[i].Col += by
			}
			if fault.Why != api.OK {
				checkFault(t, there, fault.Why, fault.At)
			} else {
				checkTree(t, there, want)
			}
		}
	}
}

// The rules that hold everywhere

func TestColumnsOfAnyNumber(t *testing.T) {
	for _, col := range []int{math.MinInt, -1, 0, math.MaxInt - 1, math.MaxInt} {
		checkTree(t, []api.Row{row(col, "- a: b", 1)}, seq(dict(str("a"), str("b"))))
		checkTree(t, []api.Row{row(col, "- - - a", 1), row(col, "- b", 2)}, seq(seq(seq(str("a"))), str("b")))
		checkTree(t, []api.Row{row(col, "&x", 1), row(col, "- a", 2), row(col, "- b", 3)}, anchored("x", seq(str("a"), str("b"))))
	}
	for _, col := range []int{0, math.MaxInt - 1, math.MaxInt} {
		checkTree(t, []api.Row{row(col, "- - |", 1), row(col, "# n", 2), row(col, "- b", 3)}, seq(seq(str("")), str("b")))
	}
	checkTree(t, []api.Row{row(math.MinInt, "a:", 1), row(math.MaxInt, "- b", 2), row(math.MaxInt, "- c", 3)}, dict(str("a"), seq(str("b"), str("c"))))
	checkTree(t, []api.Row{row(-3, "a:", 1), row(-2, "- b", 2), row(-2, "- c", 3)}, dict(str("a"), seq(str("b"), str("c"))))
	checkFault(t, []api.Row{row(math.MaxInt, "- b", 1), row(math.MinInt, "- c", 2)}, api.ErrTab, 2)
}

func TestManyRowsWithin(t *testing.T) {
	// Properties in a row each have the value of all rows behind them.
	const many = 1 << 21
	l := make([]api.Row, 0, many+2)
	for n := range many {
		l = append(l, row(0, "!!seq", n))
	}
	checkFault(t, l, api.ErrTag, many-1)
	checkTree(t, append(l, row(0, "- a", 0)), seq(str("a")))
	checkFault(t, append(l, row(0, "&x", 0), row(0, "- a", 0)), api.ErrForm, many-1)
}

func TestAnswersAreTheCallersOwn(t *testing.T) {
	l := lines(t, "a: &x\n  - [b, c]\n  - d: |\n      e\n\n  - - f\n    - g\nh: {i: j}")
	kept := slices.Clone(l)
	first, f := tree.Parse(l)
	second, _ := tree.Parse(l)
	if f != (api.Fault{}) || !slices.Equal(l, kept) {
		t.Fatal(f, l)
	}
	var spoil func(api.Tree)
	spoil = func(t api.Tree) {
		for _, kid := range t.Kids {
			spoil(kid)
		}
		all := t.Kids[:cap(t.Kids)]
		for i := range all {
			all[i] = api.Tree{Kind: 99}
		}
	}
	spoil(first)
	third, _ := tree.Parse(l)
	if !flow.Same(second, third) || !slices.Equal(l, kept) {
		t.Error("what was answered is shared")
	}
	// No two lists of one answer share any.
	var lists func(api.Tree) [][]api.Tree
	lists = func(t api.Tree) [][]api.Tree {
		all := [][]api.Tree{t.Kids}
		for _, kid := range t.Kids {
			all = append(all, lists(kid)...)
		}
		return all
	}
	for i, list := range lists(second) {
		_ = append(list, api.Tree{Kind: 97})
		if !flow.Same(second, third) {
			t.Fatalf("list %d goes on into another one", i)
		}
	}
}
