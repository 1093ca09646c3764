package emit_test

import (
	"fmt"
	"math/rand"
	"slices"
	"strings"
	"testing"

	"grommet/api"
	"grommet/emit"
	"grommet/flow"
	"grommet/load"
	"grommet/rows"
	parts "grommet/tree"
)

func tree(kind int, text string, kids ...api.Tree) api.Tree {
	return api.Tree{Kind: kind, Text: text, Kids: kids}
}

func alias(name string) api.Tree { return api.Tree{Kind: api.Alias, Anchor: name} }

func anchored(name string, t api.Tree) api.Tree {
	t.Anchor = name
	return t
}

// leaf is a Str.
func leaf(text string) api.Tree { return tree(api.Str, text) }

// list is a Seq.
func list(kids ...api.Tree) api.Tree { return tree(api.Seq, "", kids...) }

// pairs is a Map.
func pairs(kids ...api.Tree) api.Tree { return tree(api.Map, "", kids...) }

// nested are Seqs within one another, around the last ones.
func nested(count int, last ...api.Tree) api.Tree {
	t := list(last...)
	for range count - 1 {
		t = list(t)
	}
	return t
}

// nestedMaps are Maps within one another, each with the key `a`, around the last one.
func nestedMaps(count int, last api.Tree) api.Tree {
	for range count {
		last = pairs(leaf("a"), last)
	}
	return last
}

// shown is the beginning of what is told of a value.
func shown(v any) string {
	s := fmt.Sprintf("%+v", v)
	return s[:min(len(s), 999)]
}

// read is the tree that a text of one line means.
func read(t *testing.T, s string) api.Tree {
	t.Helper()
	v, f := flow.Whole(s)
	if f != (api.Fault{}) {
		t.Fatalf("%.999q: %v", s, f)
	}
	return v
}

// agree holds Rows and Text against the words written a second time, and asks what follows from them; it tells Text's error.
func agree(t *testing.T, next api.Tree) api.Errno {
	t.Helper()
	w := wantOf(next)
	l, e := emit.Rows(next)
	if !rows.Same(l, w.rows) || e != w.rowsOf {
		t.Fatalf("Rows(%s): %s, %v, not %s, %v", shown(next), shown(l), e, shown(w.rows), w.rowsOf)
	}
	s, e := emit.Text(next)
	if s != w.text || e != w.textOf {
		t.Fatalf("Text(%s): %.999q, %v, not %.999q, %v", shown(next), s, e, w.text, w.textOf)
	}
	if w.rowsOf == api.OK {
		checkParsed(t, next, l)
	}
	if e == api.OK {
		checkReadRows(t, s, l)
		checkLoaded(t, next, s)
	}
	return e
}

// checkReadRows asks for a text's rows to be those that are read of it: none begins with a blank.
func checkReadRows(t *testing.T, s string, l []api.Row) {
	t.Helper()
	if again, f := rows.Read(s); !rows.Same(l, again) || f != (api.Fault{}) {
		t.Fatalf("the rows of %.999q: %s, but read: %s, %v", s, shown(l), shown(again), f)
	}
}

// checkText asks for a tree's text, and for its rows.
func checkText(t *testing.T, next api.Tree, want string) {
	t.Helper()
	if s, e := emit.Text(next); s != want || e != api.OK {
		t.Fatalf("Text(%s):\n%s, %v, not\n%s", shown(next), s, e, want)
	}
	if l, e := emit.Rows(next); rows.Write(l) != want || e != api.OK {
		t.Fatalf("Rows(%s): %s, %v, not those of\n%s", shown(next), shown(l), e, want)
	}
	agree(t, next)
}

// checkRefused asks for the error of all calls that are handed a tree.
func checkRefused(t *testing.T, next api.Tree, why api.Errno) {
	t.Helper()
	if l, e := emit.Rows(next); len(l) != 0 || e != why {
		t.Fatalf("Rows(%s): %s, %v, not %v", shown(next), shown(l), e, why)
	}
	checkTextRefused(t, next, why)
}

func checkTextRefused(t *testing.T, next api.Tree, why api.Errno) {
	t.Helper()
	if s, e := emit.Text(next); s != "" || e != why {
		t.Fatalf("Text(%s): %.99q, %v, not %v", shown(next), s, e, why)
	}
	if s, e := emit.Dump([]api.Tree{next}); s != "" || e != why {
		t.Fatalf("Dump([%s]): %.99q, %v, not %v", shown(next), s, e, why)
	}
}

// P15.1: a tree's rows and its text

func TestExample(t *testing.T) {
	checkText(t, read(t, "{k: [1, {a: b}]}"), "k:\n  - 1\n  - a: b\n")
	l, e := emit.Rows(read(t, "{k: [1, {a: b}]}"))
	if !slices.Equal(l, []api.Row{{Col: 0, Text: "k:", At: 1}, {Col: 2, Text: "- 1", At: 2}, {Col: 2, Text: "- a: b", At: 3}}) || e != api.OK {
		t.Error(l, e)
	}
}

func TestScalars(t *testing.T) {
	for _, x := range []struct {
		next api.Tree
		want string
	}{
		{tree(api.Null, ""), "null"}, {tree(api.Bool, "true"), "true"}, {tree(api.Bool, "false"), "false"}, {tree(api.Int, "5"), "5"}, {tree(api.Int, "-9223372036854775808"), "-9223372036854775808"},
		{leaf("a"), "a"}, {leaf("a b"), "a b"}, {leaf("a, [b]"), "a, [b]"}, {leaf("\u20ac"), "\u20ac"}, {leaf("a:b#c"), "a:b#c"}, {leaf("--- a"), "--- a"}, {leaf("007"), "007"}, {leaf("Null"), "Null"},
		// What means nothing, or another kind, as it stands.
		{leaf(""), `""`}, {leaf("~"), `"~"`}, {leaf("null"), `"null"`}, {leaf("true"), `"true"`}, {leaf("5"), `"5"`}, {leaf("-5"), `"-5"`},
		// What looks like something else.
		{leaf("---"), `"---"`}, {leaf("-"), `"-"`}, {leaf("- a"), `"- a"`}, {leaf("a: b"), `"a: b"`}, {leaf("a:"), `"a:"`}, {leaf("|"), `"|"`}, {leaf(">-"), `">-"`}, {leaf("|+"), `"|+"`}, {leaf("# a"), `"# a"`}, {leaf("a # b"), `"a # b"`}, {leaf("&a b"), `"&a b"`}, {leaf("*a"), `"*a"`}, {leaf("!!str a"), `"!!str a"`}, {leaf("[a]"), `"[a]"`}, {leaf("{}"), `"{}"`}, {leaf("'a'"), `"'a'"`}, {leaf(`"a"`), `"\"a\""`}, {leaf("%a"), `"%a"`}, {leaf("? a"), `"? a"`}, {leaf("@"), `"@"`}, {leaf("`"), "\"`\""}, {leaf("]"), `"]"`}, {leaf(", a"), `", a"`},
		// Blanks at the ends, and what is not printable.
		{leaf(" a"), `" a"`}, {leaf("a "), `"a "`}, {leaf(" "), `" "`}, {leaf("a\tb"), `"a\tb"`}, {leaf("\x00\x01"), `"\0\x01"`}, {leaf("\ufeff"), `"\ufeff"`}, {leaf(`a\"b`), `a\"b`}, {leaf("a\rb"), `"a\rb"`},
	} {
		checkText(t, x.next, x.want+"\n")
		checkText(t, anchored("A-_9", x.next), "&A-_9 "+x.want+"\n")
		checkText(t, list(x.next, anchored("x", x.next)), "- "+x.want+"\n- &x "+x.want+"\n")
		checkText(t, pairs(leaf("k"), x.next, leaf("l"), anchored("x", x.next)), "k: "+x.want+"\nl: &x "+x.want+"\n")
		// As a key it stands likewise.
		checkText(t, pairs(x.next, tree(api.Int, "5")), x.want+": 5\n")
		checkText(t, pairs(x.next, x.next, x.next, list(x.next)), x.want+": "+x.want+"\n"+x.want+":\n  - "+x.want+"\n")
		checkText(t, list(pairs(x.next, anchored("x", pairs(x.next, list())))), "- "+x.want+": &x\n    "+x.want+": []\n")
	}
}

func TestEmptyListsAndAliases(t *testing.T) {
	for _, x := range []struct {
		next api.Tree
		want string
	}{
		{list(), "[]\n"}, {pairs(), "{}\n"}, {anchored("x", list()), "&x []\n"}, {anchored("x", pairs()), "&x {}\n"}, {alias("x"), "*x\n"}, {alias("A-_9"), "*A-_9\n"},
		{list(list(), pairs()), "- []\n- {}\n"}, {list(anchored("x", list()), anchored("y", pairs()), alias("x"), alias("z")), "- &x []\n- &y {}\n- *x\n- *z\n"},
		{pairs(leaf("a"), list(), leaf("b"), pairs(), leaf("c"), anchored("x", list()), leaf("d"), anchored("y", pairs()), leaf("e"), alias("y")), "a: []\nb: {}\nc: &x []\nd: &y {}\ne: *y\n"},
		{list(list(list()), pairs(leaf("a"), pairs())), "- - []\n- a: {}\n"}, {pairs(leaf("a"), list(pairs(), alias("x")), leaf("b"), pairs(leaf("c"), alias("x"))), "a:\n  - {}\n  - *x\nb:\n  c: *x\n"},
		// Behind an Alias's name a colon would be no end of a key: it may be a value alone.
		{anchored("x", list(alias("x"))), "&x\n- *x\n"}, {anchored("x", pairs(leaf("a"), alias("x"))), "&x\na: *x\n"}, {list(anchored("x", list(alias("x")))), "- &x\n  - *x\n"},
	} {
		checkText(t, x.next, x.want)
	}
	for _, next := range []api.Tree{pairs(alias("x"), leaf("a")), anchored("x", pairs(alias("x"), leaf("a"))), list(anchored("x", leaf("a")), pairs(alias("x"), leaf("a")))} {
		checkRefused(t, next, api.ErrArg)
	}
}

func TestListsInLists(t *testing.T) {
	a, b, five := leaf("a"), leaf("b"), tree(api.Int, "5")
	ab := func() api.Tree { return list(a, b) }
	map2 := func() api.Tree { return pairs(a, five, b, a) }
	for _, x := range []struct {
		next api.Tree
		want string
	}{
		{ab(), "- a\n- b\n"}, {map2(), "a: 5\nb: a\n"}, {anchored("x", ab()), "&x\n- a\n- b\n"}, {anchored("x", map2()), "&x\na: 5\nb: a\n"},
		// Behind an item.
		{list(ab(), five), "- - a\n  - b\n- 5\n"}, {list(five, map2()), "- 5\n- a: 5\n  b: a\n"}, {list(anchored("x", ab()), five), "- &x\n  - a\n  - b\n- 5\n"}, {list(five, anchored("x", map2())), "- 5\n- &x\n  a: 5\n  b: a\n"}, {anchored("y", list(ab(), map2())), "&y\n- - a\n  - b\n- a: 5\n  b: a\n"}, {anchored("y", list(anchored("x", ab()), anchored("z", map2()))), "&y\n- &x\n  - a\n  - b\n- &z\n  a: 5\n  b: a\n"},
		// Behind a key.
		{pairs(a, ab(), b, five), "a:\n  - a\n  - b\nb: 5\n"}, {pairs(a, five, b, map2()), "a: 5\nb:\n  a: 5\n  b: a\n"}, {pairs(a, anchored("x", ab()), b, five), "a: &x\n  - a\n  - b\nb: 5\n"}, {pairs(a, five, b, anchored("x", map2())), "a: 5\nb: &x\n  a: 5\n  b: a\n"}, {anchored("y", pairs(a, ab(), b, map2())), "&y\na:\n  - a\n  - b\nb:\n  a: 5\n  b: a\n"}, {anchored("y", pairs(a, anchored("x", ab()))), "&y\na: &x\n  - a\n  - b\n"},
		// Several within one another, which begin in one row, or do not.
		{list(list(ab(), five), b), "- - - a\n    - b\n  - 5\n- b\n"}, {list(list(map2(), five), b), "- - a: 5\n    b: a\n  - 5\n- b\n"}, {list(pairs(a, ab(), b, five), b), "- a:\n    - a\n    - b\n  b: 5\n- b\n"}, {list(pairs(a, map2(), b, five), b), "- a:\n    a: 5\n    b: a\n  b: 5\n- b\n"}, {pairs(a, list(ab(), five), b, b), "a:\n  - - a\n    - b\n  - 5\nb: b\n"}, {pairs(a, list(map2()), b, pairs(a, pairs(b, b))), "a:\n  - a: 5\n    b: a\nb:\n  a:\n    b: b\n"},
		{list(list(list(list(a)))), "- - - - a\n"}, {list(list(five, list(a, list(b, b)))), "- - 5\n  - - a\n    - - b\n      - b\n"}, {pairs(a, pairs(a, pairs(a, list(a)))), "a:\n  a:\n    a:\n      - a\n"},
		{list(list(anchored("x", ab()), five)), "- - &x\n    - a\n    - b\n  - 5\n"}, {list(anchored("x", list(ab(), five))), "- &x\n  - - a\n    - b\n  - 5\n"}, {list(list(anchored("x", list(list(anchored("y", list(a))))))), "- - &x\n    - - &y\n        - a\n"}, {list(pairs(a, anchored("x", map2()), b, five)), "- a: &x\n    a: 5\n    b: a\n  b: 5\n"}, {anchored("x", list(anchored("y", list(anchored("z", list(a)))))), "&x\n- &y\n  - &z\n    - a\n"}, {list(list(pairs(a, list(list(pairs(b, five)))))), "- - a:\n      - - b: 5\n"},
	} {
		checkText(t, x.next, x.want)
	}
}

func TestLongScalars(t *testing.T) {
	a, b := leaf("a"), leaf("b")
	for _, x := range []struct {
		text, mark string
		lines      []string // as they are
	}{
		// Each end.
		{"a\nb", "|-", []string{"a", "b"}}, {"a\n", "|", []string{"a"}}, {"a\nb\n", "|", []string{"a", "b"}}, {"a\n\n", "|+", []string{"a", ""}}, {"a\nb\n\n\n", "|+", []string{"a", "b", "", ""}},
		// Empty lines ahead, within, and at the end; lines that begin with blanks.
		{"\na", "|-", []string{"", "a"}}, {"\n\na\n", "|", []string{"", "", "a"}}, {"a\n\n\nb\n", "|", []string{"a", "", "", "b"}}, {"\na\n\nb\n\n", "|+", []string{"", "a", "", "b", ""}}, {"a\n b\n  c", "|-", []string{"a", " b", "  c"}}, {"a\n\n    b\nc\n", "|", []string{"a", "", "    b", "c"}}, {"\na\n b\n\n", "|+", []string{"", "a", " b", ""}},
		// What would mean something else elsewhere.
		{"# a\n# b", "|-", []string{"# a", "# b"}}, {"a\n # b\n", "|", []string{"a", " # b"}}, {"- a\n- b\n", "|", []string{"- a", "- b"}}, {"a: b\nc: d", "|-", []string{"a: b", "c: d"}}, {"---\na", "|-", []string{"---", "a"}}, {"---\n---\n", "|", []string{"---", "---"}}, {"|\na\n", "|", []string{"|", "a"}}, {"&a\n*a", "|-", []string{"&a", "*a"}}, {"\"a\n'b\n[c\n", "|", []string{`"a`, "'b", "[c"}}, {"...\n", "|", []string{"..."}}, {"5\n", "|", []string{"5"}}, {"~\n", "|", []string{"~"}}, {"a\tb\n", "|", []string{"a\tb"}}, {"a\t\nb", "|-", []string{"a\t", "b"}}, {"\u20ac\u0085\n", "|", []string{"\u20ac\u0085"}}, {"%a\n", "|", []string{"%a"}},
	} {
		at := func(col int) string {
			text := ""
			for _, line := range x.lines {
				if line != "" {
					text += strings.Repeat(" ", col) + line
				}
				text += "\n"
			}
			return text
		}
		long, named := leaf(x.text), anchored("x", leaf(x.text))
		checkText(t, long, x.mark+"\n"+at(2))
		checkText(t, named, "&x "+x.mark+"\n"+at(2))
		checkText(t, list(long, a), "- "+x.mark+"\n"+at(2)+"- a\n")
		checkText(t, list(a, named), "- a\n- &x "+x.mark+"\n"+at(2))
		checkText(t, pairs(a, long, b, named), "a: "+x.mark+"\n"+at(2)+"b: &x "+x.mark+"\n"+at(2))
		checkText(t, anchored("y", list(long)), "&y\n- "+x.mark+"\n"+at(2))
		// Its lines are deeper than where its row would stand, also if that begins behind an item.
		checkText(t, list(list(long, a), b), "- - "+x.mark+"\n"+at(4)+"  - a\n- b\n")
		checkText(t, list(pairs(a, long, b, a)), "- a: "+x.mark+"\n"+at(4)+"  b: a\n")
		checkText(t, list(list(pairs(a, named))), "- - a: &x "+x.mark+"\n"+at(6))
		checkText(t, list(anchored("y", list(long))), "- &y\n  - "+x.mark+"\n"+at(4))
		checkText(t, pairs(a, list(long, long)), "a:\n  - "+x.mark+"\n"+at(4)+"  - "+x.mark+"\n"+at(4))
		checkText(t, pairs(a, pairs(b, long), b, a), "a:\n  b: "+x.mark+"\n"+at(4)+"b: a\n")
		checkText(t, pairs(a, anchored("y", pairs(b, named))), "a: &y\n  b: &x "+x.mark+"\n"+at(4))
	}
}

func TestRowsOfLinesThatBeginWithBlanks(t *testing.T) {
	long := leaf("\na\n  b\n\n c # d\n")
	for _, x := range []struct {
		next  api.Tree
		begin []api.Row
		col   int
	}{
		{long, []api.Row{{Text: "|", At: 1}}, 2},
		{anchored("x", long), []api.Row{{Text: "&x |", At: 1}}, 2},
		{list(long), []api.Row{{Text: "- |", At: 1}}, 2},
		{pairs(leaf("a"), anchored("x", long)), []api.Row{{Text: "a: &x |", At: 1}}, 2},
		{list(list(long)), []api.Row{{Text: "- - |", At: 1}}, 4},
		{pairs(leaf("a"), list(long)), []api.Row{{Text: "a:", At: 1}, {Col: 2, Text: "- |", At: 2}}, 4},
	} {
		first := len(x.begin)
		want := append(x.begin, []api.Row{{At: first + 1}, {Col: x.col, Text: "a", At: first + 2}, {Col: x.col + 2, Text: "b", At: first + 3}, {At: first + 4}, {Col: x.col + 1, Text: "c # d", At: first + 5}}...)
		if l, e := emit.Rows(x.next); !slices.Equal(l, want) || e != api.OK {
			t.Errorf("Rows(%s): %v, %v, not %v", shown(x.next), l, e, want)
		}
		agree(t, x.next)
	}
	// A column may be greater than what a text holds.
	far := 1 << 17
	l, e := emit.Rows(leaf("a\n" + strings.Repeat(" ", far) + "b"))
	if want := []api.Row{{Text: "|-", At: 1}, {Col: 2, Text: "a", At: 2}, {Col: far + 2, Text: "b", At: 3}}; !slices.Equal(l, want) || e != api.OK {
		t.Error(shown(l), e)
	}
	for blanks := 65523; blanks < 65535; blanks++ {
		agree(t, leaf("a\n"+strings.Repeat(" ", blanks)+"b"))
	}
}

func TestStrsOfLinesThatAreNotLong(t *testing.T) {
	for _, x := range []struct{ text, want string }{
		{"\n", `"\n"`}, {"\n\n", `"\n\n"`}, {" a\n", `" a\n"`}, {"\n a\nb", `"\n a\nb"`}, {"a \nb", `"a \nb"`}, {"a\nb ", `"a\nb "`}, {"a\n \nb", `"a\n \nb"`}, {"a\n\tb", `"a\n\tb"`}, {"a\n \tb", `"a\n \tb"`}, {"\ta\n", `"\ta\n"`}, {"a\r\nb", `"a\r\nb"`}, {"a\n\r", `"a\n\r"`}, {"a\x00\nb", `"a\0\nb"`}, {"a\n\ufeff", `"a\n\ufeff"`}, {" \n", `" \n"`},
	} {
		next := leaf(x.text)
		checkText(t, next, x.want+"\n")
		checkText(t, anchored("x", next), "&x "+x.want+"\n")
		checkText(t, list(next, pairs(leaf("a"), next)), "- "+x.want+"\n- a: "+x.want+"\n")
	}
	// A key is never long.
	checkText(t, pairs(leaf("a\nb"), leaf("a\nb")), "\"a\\nb\": |-\n  a\n  b\n")
	checkText(t, list(pairs(leaf("a\n"), list(leaf("a\n")))), "- \"a\\n\":\n    - |\n      a\n")
	// A text of one line is short, be it as long as it may.
	checkText(t, list(leaf(strings.Repeat("a", 9999))), "- "+strings.Repeat("a", 9999)+"\n")
}

func TestNumbersOfRows(t *testing.T) {
	next := pairs(leaf("a"), list(leaf("x\n\ny\n\n"), anchored("x", list(list(leaf("a"))))), leaf("b"), leaf("c"))
	checkText(t, next, "a:\n  - |+\n    x\n\n    y\n\n  - &x\n    - - a\nb: c\n")
	l, _ := emit.Rows(next)
	if len(l) != 9 {
		t.Fatal(l)
	}
	for i, row := range l {
		if row.At != i+1 {
			t.Errorf("%d: %v", i, row)
		}
	}
}

func TestTreesThatMayNotBe(t *testing.T) {
	a, empty := leaf("a"), list()
	for _, wrong := range []api.Tree{
		{}, {Kind: -1}, {Kind: 8}, alias(""), alias("a b"), alias(strings.Repeat("a", 33)), anchored("a.b", a), anchored(strings.Repeat("a", 33), empty), anchored("\u20ac", a), anchored("a b", list(a)),
		tree(api.Null, "~"), tree(api.Null, "null"), tree(api.Bool, "yes"), tree(api.Int, "05"), tree(api.Int, ""), leaf("\xff"), leaf("a\n\xff"), tree(api.Seq, "a"), tree(api.Map, "a"), {Kind: api.Alias, Anchor: "a", Text: "a"},
		tree(api.Null, "", a), tree(api.Str, "a", a), {Kind: api.Alias, Anchor: "a", Kids: []api.Tree{a}},
		pairs(a), pairs(a, a, a), pairs(empty, a), pairs(pairs(), a), pairs(alias("x"), a), pairs(anchored("a", a), a), pairs(leaf("\xff"), a),
		nested(65), nested(66), nestedMaps(64, list()), list(slices.Repeat([]api.Tree{a}, 4096)...), pairs(slices.Repeat([]api.Tree{a}, 4096)...),
		// It is told ahead of a key that is too long.
		pairs(leaf(strings.Repeat("a", 257)), a, a), pairs(leaf(strings.Repeat("a", 257)), leaf("\xff")), pairs(leaf(strings.Repeat("\xff", 257)), a),
	} {
		checkRefused(t, wrong, api.ErrArg)
		checkRefused(t, list(wrong), api.ErrArg)
		checkRefused(t, pairs(a, a, a, wrong), api.ErrArg)
		checkRefused(t, list(pairs(leaf(strings.Repeat("a", 257)), a), wrong), api.ErrArg)
		checkRefused(t, list(leaf(strings.Repeat("a", 1<<17)), wrong), api.ErrArg)
		agree(t, wrong)
	}
	// A list that has itself in it is a tree without an end.
	endless := []api.Tree{empty}
	endless[0].Kids = endless
	if l, e := emit.Rows(endless[0]); len(l) != 0 || e != api.ErrArg {
		t.Error(len(l), e)
	}
	if s, e := emit.Text(endless[0]); s != "" || e != api.ErrArg {
		t.Error(len(s), e)
	}
	if s, e := emit.Dump(endless); s != "" || e != api.ErrArg {
		t.Error(len(s), e)
	}
}

func TestLongKeys(t *testing.T) {
	five := tree(api.Int, "5")
	for _, x := range []struct {
		key  string
		want string // what stands of it
		may  bool
	}{
		{strings.Repeat("a", 255), strings.Repeat("a", 255), true}, {strings.Repeat("a", 256), strings.Repeat("a", 256), true}, {strings.Repeat("a", 257), "", false}, {strings.Repeat("a", 1<<17), "", false},
		// The text counts, as it is meant.
		{strings.Repeat("\u20ac", 85) + "a", strings.Repeat("\u20ac", 85) + "a", true}, {strings.Repeat("\u20ac", 85) + "aa", "", false}, {strings.Repeat("\u20ac", 86), "", false}, {strings.Repeat("\x01", 256), `"` + strings.Repeat(`\x01`, 256) + `"`, true}, {strings.Repeat("\x01", 257), "", false}, {strings.Repeat(" ", 256), `"` + strings.Repeat(" ", 256) + `"`, true}, {strings.Repeat("\n", 256), `"` + strings.Repeat(`\n`, 256) + `"`, true}, {strings.Repeat("\n", 257), "", false},
	} {
		key := leaf(x.key)
		if x.may {
			checkText(t, pairs(key, five), x.want+": 5\n")
			checkText(t, list(five, pairs(leaf("a"), list(pairs(leaf("b"), five, key, list(five))))), "- 5\n- a:\n    - b: 5\n      "+x.want+":\n        - 5\n")
			continue
		}
		for _, next := range []api.Tree{pairs(key, five), pairs(leaf("a"), five, key, list()), list(pairs(key, five)), pairs(leaf("a"), pairs(key, five)), anchored("x", list(five, pairs(leaf("a"), list(pairs(leaf("b"), five, key, five))))), nestedMaps(62, pairs(key, list()))} {
			checkRefused(t, next, api.ErrMany)
			agree(t, next)
		}
		// A value may be as long.
		if e := agree(t, pairs(leaf("a"), leaf(x.key))); e != api.OK && len(x.key) < 1<<16 {
			t.Errorf("%.20q: %v", x.key, e)
		}
	}
}

func TestLongTexts(t *testing.T) {
	a := leaf("a")
	long := func(count int) string { return strings.Repeat("a", count) }
	for _, x := range []struct {
		next func(count int) api.Tree
		most int // so many are a text of 65536 bytes
	}{
		{func(count int) api.Tree { return leaf(long(count)) }, 65535},
		{func(count int) api.Tree { return anchored("x", leaf(long(count))) }, 65535 - 3},
		{func(count int) api.Tree { return leaf(" " + long(count)) }, 65535 - 3},
		{func(count int) api.Tree { return leaf(long(count) + "\n") }, 65535 - 4},
		{func(count int) api.Tree { return leaf(long(count) + "\n\n") }, 65535 - 6},
		{func(count int) api.Tree { return leaf(strings.Repeat("\u20ac", 21840) + long(count)) }, 65535 - 65520},
		{func(count int) api.Tree { return leaf("a" + strings.Repeat("\n", count)) }, 65536 - 6},
		{func(count int) api.Tree { return list(a, leaf(long(count))) }, 65535 - 6},
		{func(count int) api.Tree { return pairs(a, a, a, leaf(long(count))) }, 65535 - 8},
		{func(count int) api.Tree { return nested(64, leaf(long(count))) }, 65535 - 128},
		{func(count int) api.Tree {
			return list(list(leaf(strings.Repeat("a\n", 10000)+strings.Repeat("\n", 5000)+long(count)), a))
		}, 65535 - 7 - 60000 - 5000 - 6 - 4},
	} {
		for _, more := range []int{-1, 0, 1, 2} {
			next := x.next(x.most + more)
			if more <= 0 {
				s, e := emit.Text(next)
				if len(s) != 65536+more || e != api.OK {
					t.Fatalf("Text(%.99s): %d bytes, %v, not %d", shown(next), len(s), e, 65536+more)
				}
				if again, e := emit.Dump([]api.Tree{next}); again != s || e != api.OK {
					t.Fatalf("Dump([%.99s]): %d bytes, %v", shown(next), len(again), e)
				}
			} else {
				checkTextRefused(t, next, api.ErrMany)
				// Its rows know no such limit.
				if l, e := emit.Rows(next); len(rows.Write(l)) != 65536+more || e != api.OK {
					t.Fatalf("Rows(%.99s): %d rows, %v", shown(next), len(l), e)
				}
			}
			agree(t, next)
		}
	}
	// Far more than may be.
	for _, next := range []api.Tree{leaf(long(1 << 20)), leaf(strings.Repeat("a\n", 1<<16)), nested(63, pairs(a, leaf(strings.Repeat("a\n", 1<<11)))), list(slices.Repeat([]api.Tree{leaf(long(1 << 10))}, 4000)...)} {
		checkTextRefused(t, next, api.ErrMany)
		if e := agree(t, next); e != api.ErrMany {
			t.Error(e)
		}
	}
}

func TestDeepTrees(t *testing.T) {
	a := leaf("a")
	checkText(t, nested(64, a), strings.Repeat("- ", 64)+"a\n")
	checkText(t, nested(64, a, a), strings.Repeat("- ", 64)+"a\n"+strings.Repeat("  ", 63)+"- a\n")
	checkText(t, nested(64), strings.Repeat("- ", 63)+"[]\n")
	checkText(t, nested(64, leaf("a\n")), strings.Repeat("- ", 64)+"|\n"+strings.Repeat("  ", 64)+"a\n")
	var want strings.Builder
	for i := range 64 {
		want.WriteString(strings.Repeat("  ", i) + "a:")
		if i < 63 {
			want.WriteString("\n")
		}
	}
	checkText(t, nestedMaps(64, a), want.String()+" a\n")
	checkText(t, nestedMaps(64, leaf("\na\n\n")), want.String()+" |+\n\n"+strings.Repeat("  ", 64)+"a\n\n")
	checkText(t, nestedMaps(63, list()), strings.TrimSuffix(want.String(), "\n"+strings.Repeat("  ", 63)+"a:")+" []\n")
	named := func(count int, wrap func(api.Tree) api.Tree) api.Tree {
		next := a
		for range count {
			next = anchored("x", wrap(next))
		}
		return next
	}
	for _, wrap := range []func(api.Tree) api.Tree{
		func(v api.Tree) api.Tree { return list(v) }, func(v api.Tree) api.Tree { return list(a, v, alias("x")) }, func(v api.Tree) api.Tree { return pairs(a, v) }, func(v api.Tree) api.Tree { return pairs(a, leaf("a\n\n b"), a, v, a, a) },
	} {
		if e := agree(t, named(64, wrap)); e != api.OK {
			t.Error(e)
		}
		if e := agree(t, named(65, wrap)); e != api.ErrArg {
			t.Error(e)
		}
	}
	checkRefused(t, nested(65), api.ErrArg)
}

func TestGreatTrees(t *testing.T) {
	a, x := leaf("a"), alias("x")
	for _, next := range []api.Tree{
		list(slices.Repeat([]api.Tree{a}, 4095)...), anchored("x", list(slices.Repeat([]api.Tree{x}, 4095)...)), pairs(slices.Repeat([]api.Tree{a}, 4094)...), list(slices.Repeat([]api.Tree{leaf("a\nb")}, 4095)...), list(append(slices.Repeat([]api.Tree{a}, 4095-63), nested(63))...), list(slices.Repeat([]api.Tree{list(a, pairs(a, x))}, 819)...), list(slices.Repeat([]api.Tree{anchored("x", pairs(a, list(a)))}, 1000)...),
	} {
		if e := agree(t, next); e != api.OK {
			t.Errorf("Text(%s): %v", shown(next), e)
		}
	}
}

func TestSmallTrees(t *testing.T) {
	count := 0
	leaves := []api.Tree{leaf("a"), anchored("x", tree(api.Null, "")), alias("x"), leaf("a\n b"), anchored("x", leaf("\nb\n\n"))}
	for _, trees := range smallTrees(5, leaves...) {
		for _, next := range trees {
			if e := agree(t, next); e != api.OK {
				t.Fatalf("Text(%s): %v", shown(next), e)
			}
			count++
		}
	}
	if count < 20000 {
		t.Error(count)
	}
}

func TestChainsOfLists(t *testing.T) {
	for _, next := range chains(4, leaf("a"), leaf("# a\n\n  b\n\n"), anchored("x", leaf("a\n"))) {
		if e := agree(t, next); e != api.OK {
			t.Fatalf("Text(%s): %v", shown(next), e)
		}
	}
}

func TestDrawnTrees(t *testing.T) {
	draw := rand.New(rand.NewSource(1))
	count := map[api.Errno]int{}
	for n := range 60000 {
		next := drawnTree(draw, n%7, "a", "x", "a1")
		if n%4 == 0 {
			next = spoilt(draw, next)
		}
		count[agree(t, next)]++
	}
	if count[api.OK] < 40000 || count[api.ErrArg] < 2000 || count[api.ErrMany] < 50 || len(count) != 3 {
		t.Error(count)
	}
}

func TestDrawnLines(t *testing.T) {
	draw := rand.New(rand.NewSource(2))
	long := 0
	for range 60000 {
		next := leaf(drawnLines(draw))
		if isLong(next) {
			long++
		}
		for range draw.Intn(4) {
			next = one(draw, list(next), list(next, leaf("z")), pairs(leaf("k"), next), pairs(leaf("k"), next, leaf("l"), next), anchored("x", next))
		}
		if e := agree(t, next); e != api.OK {
			t.Fatalf("Text(%s): %v", shown(next), e)
		}
	}
	if long < 20000 || long > 50000 {
		t.Error(long)
	}
}

// P15.3

// checkLoaded asks that a text is loaded as the tree that was written.
func checkLoaded(t *testing.T, next api.Tree, s string) {
	t.Helper()
	if again, f := load.One(s); !sameTree(again, next) || f != (api.Fault{}) {
		t.Fatalf("%.999q: %s, %v, not %s", s, shown(again), f, shown(next))
	}
	if l, f := load.Load(s); len(l) != 1 || f != (api.Fault{}) {
		t.Fatalf("%.999q: %d documents, %v", s, len(l), f)
	}
}

// checkParsed asks that rows mean the tree that was written.
func checkParsed(t *testing.T, next api.Tree, l []api.Row) {
	t.Helper()
	if again, f := parts.Parse(l); !sameTree(again, next) || f != (api.Fault{}) {
		t.Fatalf("%s: %s, %v, not %s", shown(l), shown(again), f, shown(next))
	}
}

func TestWhatIsWrittenIsLoaded(t *testing.T) {
	for _, s := range []string{
		"~", "''", "a", "'5'", "5", "[]", "{}", "*a", "&a []", "&a [*a]", "[[], [[]], {a: {}}]", "{~: ~, true: false, 5: '5', '5': 5, '': ''}", "{a: 1, a: 2}", "[*x, &x a, &x b]", `["\n", "a\n", "a\n\n", " a\n", "a\nb", "# a\n", "---\n"]`, `{"a\nb": "a\nb", "\n": &x "\na\n\n", c: [&y "a\n b"]}`, "&r {a: &s [&t {b: [*r, *s, *t]}], c: &u {}}",
	} {
		next := read(t, s)
		text, e := emit.Text(next)
		if e != api.OK {
			t.Fatalf("Text(%s): %v", s, e)
		}
		checkLoaded(t, next, text)
		// And so it is written again.
		again, _ := load.One(text)
		checkText(t, again, text)
	}
}
