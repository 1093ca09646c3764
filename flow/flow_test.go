package flow_test

import (
	"fmt"
	"math/rand"
	"reflect"
	"strings"
	"testing"

	"grommet/api"
	"grommet/flow"
	"grommet/plain"
	"grommet/quote"
)

// both are a flow, and none.
var both = []bool{false, true}

const (
	nameBytes = "abcdefghijklmnopqrstuvwxyzABCDEFGHIJKLMNOPQRSTUVWXYZ0123456789-_"
	flowMarks = ",[]{}"
)

var null = api.Tree{Kind: api.Null}

func boolean(text string) api.Tree   { return api.Tree{Kind: api.Bool, Text: text} }
func number(text string) api.Tree    { return api.Tree{Kind: api.Int, Text: text} }
func str(text string) api.Tree       { return api.Tree{Kind: api.Str, Text: text} }
func seq(kids ...api.Tree) api.Tree  { return api.Tree{Kind: api.Seq, Kids: kids} }
func dict(kids ...api.Tree) api.Tree { return api.Tree{Kind: api.Map, Kids: kids} }
func alias(name string) api.Tree     { return api.Tree{Kind: api.Alias, Anchor: name} }

func anchored(name string, t api.Tree) api.Tree {
	t.Anchor = name
	return t
}

// isSame is written a second time here, since Same is tested, too.
func isSame(a, b api.Tree) bool {
	if a.Kind != b.Kind || a.Text != b.Text || a.Anchor != b.Anchor || len(a.Kids) != len(b.Kids) {
		return false
	}
	for i := range a.Kids {
		if !isSame(a.Kids[i], b.Kids[i]) {
			return false
		}
	}
	return true
}

func checkRead(t *testing.T, s string, inFlow bool, want api.Tree, count int) {
	t.Helper()
	if got, n, f := flow.Read(s, inFlow); !isSame(got, want) || n != count || f != (api.Fault{}) {
		t.Errorf("Read(%q, %v): %v, %d, %v, not %v, %d", s, inFlow, got, n, f, want, count)
	}
}

func checkFault(t *testing.T, s string, inFlow bool, why api.Errno, at int) {
	t.Helper()
	if got, n, f := flow.Read(s, inFlow); !reflect.DeepEqual(got, api.Tree{}) || n != 0 || f != (api.Fault{Why: why, At: at}) {
		t.Errorf("Read(%q, %v): %v, %d, %v, not {%v %d}", s, inFlow, got, n, f, why, at)
	}
}

func checkWhole(t *testing.T, s string, want api.Tree) {
	t.Helper()
	if got, f := flow.Whole(s); !isSame(got, want) || f != (api.Fault{}) {
		t.Errorf("Whole(%.100q): %v, %v, not %v", s, got, f, want)
	}
}

func checkWholeFault(t *testing.T, s string, why api.Errno, at int) {
	t.Helper()
	if got, f := flow.Whole(s); !reflect.DeepEqual(got, api.Tree{}) || f != (api.Fault{Why: why, At: at}) {
		t.Errorf("Whole(%.100q): %v, %v, not {%v %d}", s, got, f, why, at)
	}
}

// checkMeans asks that all of a text is read, in a flow, not in one, as a whole, and in brackets.
func checkMeans(t *testing.T, s string, want api.Tree) {
	t.Helper()
	for _, inFlow := range both {
		checkRead(t, s, inFlow, want, len(s))
	}
	checkWhole(t, s, want)
	if s != "" {
		checkMeansWithin(t, s, want)
	}
}

// checkMeansWithin asks that a text is read in brackets.
func checkMeansWithin(t *testing.T, s string, want api.Tree) {
	t.Helper()
	checkRead(t, s, true, want, len(s))
	checkWhole(t, "["+s+"]", seq(want))
	checkWhole(t, "[x, "+s+" , y]", seq(str("x"), want, str("y")))
	checkWhole(t, "{k: "+s+"}", dict(str("k"), want))
}

// checkWrong asks for a fault in a flow, not in one, as a whole, and (but for what is missing at the end) in brackets.
func checkWrong(t *testing.T, s string, why api.Errno, at int) {
	t.Helper()
	for _, inFlow := range both {
		checkFault(t, s, inFlow, why, at)
		checkFault(t, "  "+s, inFlow, why, at+2)
		checkFault(t, "[x, "+s, inFlow, why, at+4)
		checkFault(t, "{k: "+s, inFlow, why, at+4)
		if why != api.ErrEnd {
			checkFault(t, "["+s+"]", inFlow, why, at+1)
		}
	}
	checkWholeFault(t, s, why, at)
}

// checkWrongThere is of a text alone, in a flow and not in one.
func checkWrongThere(t *testing.T, s string, why api.Errno, at int) {
	t.Helper()
	checkFault(t, s, false, why, at)
	checkFault(t, s, true, why, at)
	checkWholeFault(t, s, why, at)
}

// agree holds Read and Whole against the words written a second time.
func agree(t *testing.T, s string) {
	t.Helper()
	for _, inFlow := range both {
		want, count, fault := wantRead(s, inFlow)
		if fault.Why != api.OK {
			checkFault(t, s, inFlow, fault.Why, fault.At)
		} else {
			checkRead(t, s, inFlow, want, count)
		}
	}
	if want, fault := wantWhole(s); fault.Why != api.OK {
		checkWholeFault(t, s, fault.Why, fault.At)
	} else {
		checkWhole(t, s, want)
	}
}

// agreeTree holds the calls on trees against them.
func agreeTree(t *testing.T, tree api.Tree) {
	t.Helper()
	if got := flow.Right(tree); got != wantRight(tree) {
		t.Errorf("Right(%v): %v", tree, got)
	}
	for _, inFlow := range both {
		if got, want := flow.Scalar(tree, inFlow), wantScalar(tree, inFlow); got != want {
			t.Errorf("Scalar(%v, %v): %q, not %q", tree, inFlow, got, want)
		}
	}
	want, why := wantWrite(tree)
	if got, e := flow.Write(tree); got != want || e != why {
		t.Errorf("Write(%v): %q, %v, not %q, %v", tree, got, e, want, why)
	}
}

// P9.1: every row of the table

func TestExample(t *testing.T) {
	checkMeans(t, "&a [1, {b: ~}, !!str 2]", anchored("a", seq(number("1"), dict(str("b"), null), str("2"))))
	checkMeans(t, "&a [*a]", anchored("a", seq(alias("a"))))
	checkMeans(t, `'it''s'`, str("it's"))
	checkMeans(t, `"it's"`, str("it's"))
	checkMeans(t, "007", str("007"))
	checkMeans(t, "7", number("7"))
	checkMeans(t, "~", null)
	checkMeans(t, "null", null)
	checkMeans(t, "", null)
}

func TestReadAlias(t *testing.T) {
	for _, name := range []string{"a", "Z", "0", "-", "_", "a-b_c9", "007", "null", "---", strings.Repeat("x", 32)} {
		checkMeans(t, "*"+name, alias(name))
	}
	// It ends where its name does, whatever stands there.
	for _, behind := range []string{" ", "  b", ":", ": b", ":b", ".", "\"", "'", "*b", "&b", "!!str", "#", "\t", "\n", "\u00e9", "\xff", ",", "]", "[", "}"} {
		for _, inFlow := range both {
			checkRead(t, "*ab"+behind, inFlow, alias("ab"), 3)
		}
	}
}

func TestReadQuoted(t *testing.T) {
	for _, c := range [][2]string{
		{`''`, ""}, {`""`, ""}, {`'a'`, "a"}, {`"a"`, "a"}, {`'it''s'`, "it's"}, {`"\u00e9\n"`, "\u00e9\n"}, {`"\0\""`, "\x00\""},
		// Quoted ones are of no other kind.
		{`'null'`, "null"}, {`"~"`, "~"}, {`'true'`, "true"}, {`"false"`, "false"}, {`'5'`, "5"}, {`"-7"`, "-7"},
		// In quotes nothing ends a text but the second one.
		{`'a, b'`, "a, b"}, {`"[]{}"`, "[]{}"}, {`'a: b'`, "a: b"}, {`" # a "`, " # a "}, {`'*a'`, "*a"}, {`"&a !!b"`, "&a !!b"},
	} {
		checkMeans(t, c[0], str(c[1]))
	}
	for _, behind := range []string{" ", "b", ": b", ", b", "]", "#", " #", "\xff", "\t"} {
		for _, inFlow := range both {
			checkRead(t, `"a"`+behind, inFlow, str("a"), 3)
			checkRead(t, `'a'`+behind, inFlow, str("a"), 3)
		}
	}
}

func TestReadPlain(t *testing.T) {
	for s, want := range map[string]api.Tree{
		"~": null, "null": null, "true": boolean("true"), "false": boolean("false"), "0": number("0"), "-5": number("-5"), "9223372036854775807": number("9223372036854775807"),
		"a": str("a"), "a b": str("a b"), "a  b": str("a  b"), "007": str("007"), "-0": str("-0"), "+1": str("+1"), "9223372036854775808": str("9223372036854775808"), "Null": str("Null"), "yes": str("yes"), "1.5": str("1.5"),
		"a:b": str("a:b"), "a#b": str("a#b"), "it's": str("it's"), "a&b": str("a&b"), "a*b": str("a*b"), "a!b": str("a!b"), "--": str("--"), "-a": str("-a"), "\u00e9\u20ac": str("\u00e9\u20ac"), "\U0001f600": str("\U0001f600"), "\u0085": str("\u0085"),
	} {
		checkMeans(t, s, want)
	}
}

func TestReadPlainUpToItsEnd(t *testing.T) {
	for _, c := range []struct {
		s         string
		want, too api.Tree // not in a flow, and in one
		n, there  int
	}{
		{"a ", str("a"), str("a"), 1, 1},
		{"a: b", str("a"), str("a"), 1, 1},
		{"a b :", str("a b"), str("a b"), 3, 3},
		{"5:", number("5"), number("5"), 1, 1},
		{"a # b", str("a"), str("a"), 1, 1},
		{"~  # b", null, null, 1, 1},
		{"a, b", str("a, b"), str("a"), 4, 1},
		{"a ,b", str("a ,b"), str("a"), 4, 1},
		{"5,", str("5,"), number("5"), 2, 1},
		{"a]", str("a]"), str("a"), 2, 1},
		{"null}", str("null}"), null, 5, 4},
		{"true [a]", str("true [a]"), boolean("true"), 8, 4},
		{"a{", str("a{"), str("a"), 2, 1},
		{"a:,", str("a:,"), str("a"), 3, 1},
		{"a:[b]", str("a:[b]"), str("a"), 5, 1},
		{"  a  ", str("a"), str("a"), 3, 3},
	} {
		checkRead(t, c.s, false, c.want, c.n)
		checkRead(t, c.s, true, c.too, c.there)
	}
}

func TestReadWhatIsNotPlain(t *testing.T) {
	for _, s := range []string{"-", "---", "- a", "-  ", "|", ">", "|-", "%a", "@", "\x60a", "?", "? a", "#", "# a", "!", "!a", "! a", ":a", "a\tb", "a\nb", "a\rb", "\t", "\n", "\x00", "a\x7f", "\xff", "a\xc3", "\ufeff", "a\uffff", "\u0080"} {
		checkWrong(t, s, api.ErrForm, 0)
	}
	// In a flow it is cut off earlier, and so may be none.
	for _, s := range []string{",", "]", "}", ", a", "] b", "}c"} {
		checkFault(t, s, false, api.ErrForm, 0)
		checkFault(t, "  "+s, false, api.ErrForm, 2)
		checkRead(t, s, true, null, 0)
	}
	for _, s := range []string{"-,", "-]", "-[a]", "---}"} {
		checkFault(t, s, true, api.ErrForm, 0)
		checkRead(t, s, false, str(s), len(s))
	}
}

func TestReadNothing(t *testing.T) {
	for _, s := range []string{"", " ", "    ", ":", ": a", "  : a"} {
		for _, inFlow := range both {
			// No blank is ahead of a value that is not there: all of them are behind it.
			checkRead(t, s, inFlow, null, 0)
		}
	}
	for _, s := range []string{"", " ", "     "} {
		checkWhole(t, s, null)
	}
	for _, mark := range []string{",", "]", "}", ":,", ":]", ": "} {
		checkRead(t, mark, true, null, 0)
		checkRead(t, "  "+mark, true, null, 0)
	}
	checkWholeFault(t, ":", api.ErrForm, 0)
	checkWholeFault(t, "  : a", api.ErrForm, 2)
}

// P9.1: brackets

func TestReadSeqs(t *testing.T) {
	a, b := str("a"), str("b")
	for s, want := range map[string]api.Tree{
		"[]": seq(), "[ ]": seq(), "[    ]": seq(),
		"[a]": seq(a), "[a,]": seq(a), "[ a ]": seq(a), "[ a , ]": seq(a),
		"[a,b]": seq(a, b), "[a, b]": seq(a, b), "[ a , b ]": seq(a, b), "[a,b,]": seq(a, b), "[   a   ,   b   ,   ]": seq(a, b),
		"[[]]": seq(seq()), "[[],]": seq(seq()), "[[], {}]": seq(seq(), dict()), "[[a],[b]]": seq(seq(a), seq(b)), "[{a: b}]": seq(dict(a, b)),
		"[~]": seq(null), "[null, ~]": seq(null, null), "['']": seq(str("")), `["", '']`: seq(str(""), str("")),
		"[a b, 'a, b', 5, true]": seq(str("a b"), str("a, b"), number("5"), boolean("true")),
		"[*a]":                   seq(alias("a")), "[*a,*b]": seq(alias("a"), alias("b")),
		"[&a, b]": seq(anchored("a", null), b), "[&a]": seq(anchored("a", null)), "[&a ]": seq(anchored("a", null)), "[!!null]": seq(null), "[!!str, !!null ,]": seq(str(""), null), "[&a !!str]": seq(anchored("a", str(""))),
		"[a:b]": seq(str("a:b")), "[-1]": seq(number("-1")), "[a#]": seq(str("a#")),
	} {
		checkMeans(t, s, want)
	}
}

func TestReadSeqsThatAreNone(t *testing.T) {
	for _, c := range []struct {
		s  string
		at int
	}{
		{"[,]", 1}, {"[ ,]", 2}, {"[,a]", 1}, {"[,,]", 1}, {"[a,,]", 3}, {"[a,,b]", 3}, {"[a, ,b]", 4}, {"[a ,  , ]", 6}, {"[a,b,,]", 5}, {"[&a,,b]", 4},
		{"[a}", 2}, {"[}", 1}, {"[a,}", 3}, {"[ a : b]", 4}, {"[a: b]", 2}, {"[a:]", 2}, {"[a:,b]", 2}, {"[:]", 1}, {"[: a]", 1}, {"[:a]", 1}, {`["a": b]`, 4}, {`["a":b]`, 4},
		{"[a # b]", 3}, {"[ # a]", 2}, {"[#]", 1}, {`["a"b]`, 4}, {`["a" "b"]`, 5}, {"['a' b]", 5}, {"[*a b]", 4}, {"[*a:b]", 3}, {"[*a*b]", 3}, {"[[] a]", 4}, {"[[][]]", 3}, {"[{}{}]", 3}, {"[a[b]]", 2}, {"[a{}]", 2},
		{"[-]", 1}, {"[a, -]", 4}, {"[- a]", 1}, {"[a, |]", 4}, {"[a\tb]", 1}, {"[\t]", 1}, {"[a,\n]", 3}, {"[&a :]", 4}, {"[&a: b]", 3}, {"[&a #]", 4},
	} {
		checkWrong(t, c.s, api.ErrForm, c.at)
	}
}

func TestReadMaps(t *testing.T) {
	a, b, c, d := str("a"), str("b"), str("c"), str("d")
	for s, want := range map[string]api.Tree{
		"{}": dict(), "{ }": dict(), "{    }": dict(),
		"{a: b}": dict(a, b), "{a: b,}": dict(a, b), "{ a : b }": dict(a, b), "{ a  :  b , }": dict(a, b), "{a: b, c: d}": dict(a, b, c, d), "{a: b,c: d,}": dict(a, b, c, d), "{  a:   b   ,   c:   d   ,   }": dict(a, b, c, d),
		// Values that are nothing.
		"{a:}": dict(a, null), "{a: }": dict(a, null), "{a :}": dict(a, null), "{a:,}": dict(a, null), "{a: ,}": dict(a, null), "{a:,c:}": dict(a, null, c, null), "{a: , c: d}": dict(a, null, c, d), `{"a":}`: dict(a, null), `{'a':,}`: dict(a, null),
		// Keys.
		"{'a': b}": dict(a, b), `{"a": b}`: dict(a, b), `{"a" : b}`: dict(a, b), `{ 'a'  :  b}`: dict(a, b), "{'': b}": dict(str(""), b), `{"": ""}`: dict(str(""), str("")), `{"a, b": c}`: dict(str("a, b"), c), "{'a: b': c}": dict(str("a: b"), c), `{"\n": c}`: dict(str("\n"), c),
		"{a b: c}": dict(str("a b"), c), "{a:b: c}": dict(str("a:b"), c), "{a#b: c}": dict(str("a#b"), c),
		"{~: a}": dict(null, a), "{null: a}": dict(null, a), "{true: a}": dict(boolean("true"), a), "{false : a}": dict(boolean("false"), a), "{5: a}": dict(number("5"), a), "{-5: a}": dict(number("-5"), a), "{007: a}": dict(str("007"), a), "{'~': a}": dict(str("~"), a), `{"5": a}`: dict(str("5"), a), "{'true': a}": dict(str("true"), a),
		// Twice the same key: that is no matter of a tree.
		"{a: b, a: c}": dict(a, b, a, c),
		// A colon that ends, with a bracket right behind it.
		"{a:[]}": dict(a, seq()), "{a:{}}": dict(a, dict()), `{"a":[b]}`: dict(a, seq(b)), "{'a':{c:d: b}}": dict(a, dict(str("c:d"), b)),
		"{a: {b: {c: d}}}": dict(a, dict(b, dict(c, d))), "{a: [b, {c: d}]}": dict(a, seq(b, dict(c, d))),
		"{a: *b}": dict(a, alias("b")), "{a: *b,}": dict(a, alias("b")), "{a: &b}": dict(a, anchored("b", null)), "{a: &b, c: !!str}": dict(a, anchored("b", null), c, str("")), "{a: &b[]}": dict(a, anchored("b", seq())), "{a: !!map{}}": dict(a, dict()),
		"{a: 5, b: true, c: 'd'}": dict(a, number("5"), b, boolean("true"), c, d),
	} {
		checkMeans(t, s, want)
	}
}

func TestReadMapsThatAreNone(t *testing.T) {
	for _, c := range []struct {
		s  string
		at int
	}{
		{"{,}", 1}, {"{ ,}", 2}, {"{a: b,,}", 6}, {"{a: b, ,}", 7}, {"{,a: b}", 1}, {"{,,}", 1}, {"{a:,,}", 4},
		// A colon that is missing, and one that does not end.
		{"{a}", 2}, {"{a }", 3}, {"{a,}", 2}, {"{a, b: c}", 2}, {"{a:b}", 4}, {"{a:b, c: d}", 4}, {"{a:'b'}", 6}, {"{'a'}", 4}, {"{'a' }", 5}, {`{"a", b: c}`, 4}, {`{"a":b}`, 4}, {`{"a":"b"}`, 4}, {`{"a" :b}`, 5}, {`{'a':'b'}`, 4}, {`{"a":&b c}`, 4}, {`{"a":*b}`, 4}, {`{"a"::}`, 4}, {"{a::}", 1}, {"{a:: b}", 1}, {`{"a"b: c}`, 4}, {`{"a" b: c}`, 5}, {"{'a' 'b': c}", 5}, {`{'a'#: c}`, 4}, {"{a [b]: c}", 3}, {"{a{}: c}", 2}, {"{a #b: c}", 3},
		// Keys that are none.
		{"{:}", 1}, {"{: a}", 1}, {"{ : a}", 2}, {"{:a: b}", 1}, {"{[a]: b}", 1}, {"{[]: b}", 1}, {"{{}: b}", 1}, {"{*a: b}", 1}, {"{*a : b}", 1}, {"{&a b: c}", 1}, {"{&a: b}", 1}, {"{!!str a: b}", 1}, {"{!!null : b}", 1}, {"{? a: b}", 1}, {"{?: b}", 1}, {"{-: b}", 1}, {"{- a: b}", 1}, {"{---: b}", 1}, {"{#: b}", 1}, {"{ #a: b}", 2}, {"{|: b}", 1}, {"{%: b}", 1}, {"{a\tb: c}", 1}, {"{\xff: c}", 1}, {"{a: b, [c]: d}", 7}, {"{a: b, *c: d}", 7},
		// What stands behind a value.
		{"{a: b c: d}", 7}, {"{a: b: c}", 5}, {"{a: 'b' c}", 8}, {"{a: [] b}", 7}, {"{a: b]", 5}, {"{a: b # c}", 6}, {"{]", 1}, {"{a]", 2}, {"{a:]", 3}, {"{a: *b c}", 7}, {"{a: :}", 4}, {"{a: -}", 4}, {"{a: - b}", 4}, {"{a: # b}", 4},
	} {
		checkWrong(t, c.s, api.ErrForm, c.at)
	}
}

func TestReadBlanksAlone(t *testing.T) {
	// A blank is the byte 32; other ones part nothing.
	for _, b := range []string{"\t", "\n", "\r", "\v", "\f", "\x00", "\ufeff"} {
		checkWrong(t, b+"a", api.ErrForm, 0)
		checkWrong(t, b+"[]", api.ErrForm, 0)
		checkWrong(t, "["+b+"]", api.ErrForm, 1)
		checkWrong(t, "[[]"+b+"]", api.ErrForm, 3)
		checkWrong(t, "{"+b+"}", api.ErrForm, 1)
		checkWrong(t, "{'a'"+b+": b}", api.ErrForm, 4)
		checkWrong(t, "&a"+b+"b", api.ErrForm, 2)
		checkWholeFault(t, "[]"+b, api.ErrForm, 2)
	}
	checkMeans(t, "[\u00a0]", seq(str("\u00a0")))
}

func TestReadBlanksAreTakenAhead(t *testing.T) {
	for long := range 6 {
		for behind := range 3 {
			ahead, rest := strings.Repeat(" ", long), strings.Repeat(" ", behind)
			for s, want := range map[string]api.Tree{"a": str("a"), "[]": seq(), "{ a: b }": dict(str("a"), str("b")), "'a'": str("a"), "*a": alias("a"), "&a": anchored("a", null), "!!str": str(""), "&a   !!str": anchored("a", str("")), "&a b": anchored("a", str("b"))} {
				for _, inFlow := range both {
					checkRead(t, ahead+s+rest, inFlow, want, long+len(s))
				}
				checkWhole(t, ahead+s+rest, want)
			}
		}
	}
	// Names and words begin right behind their signs.
	checkWrong(t, "& a", api.ErrForm, 1)
	checkWrong(t, "* a", api.ErrForm, 1)
	checkWrong(t, "!! str", api.ErrForm, 2)
	checkWrong(t, "! !str", api.ErrForm, 0)
}

// P9.1: properties

func TestReadProperties(t *testing.T) {
	for s, want := range map[string]api.Tree{
		"&a b": anchored("a", str("b")), "&a 5": anchored("a", number("5")), "&a ~": anchored("a", null), "&a": anchored("a", null), "&a 'b'": anchored("a", str("b")), "&a []": anchored("a", seq()), "&a {}": anchored("a", dict()), "&a   b": anchored("a", str("b")),
		"!!str b": str("b"), "!!str   5": str("5"), "!!int 5": number("5"), "!!seq []": seq(), "!!map {}": dict(), "!!null": null, "!!null ~": null, "!!bool true": boolean("true"), "!!str": str(""),
		"&a !!str 5": anchored("a", str("5")), "!!str &a 5": anchored("a", str("5")), "&a !!seq [b]": anchored("a", seq(str("b"))), "!!seq &a [b]": anchored("a", seq(str("b"))), "&a !!str": anchored("a", str("")), "!!null &a": anchored("a", null), "!!str   &a   'b'": anchored("a", str("b")),
		"&a a&b": anchored("a", str("a&b")), "&null null": anchored("null", null), "&a-b_C9 x": anchored("a-b_C9", str("x")),
	} {
		checkMeans(t, s, want)
	}
}

func TestReadPropertiesAheadOfMarks(t *testing.T) {
	for _, c := range []struct {
		s    string
		want api.Tree
		n    int
		at   int // of the fault where no flow is
	}{
		{"&a[b]", anchored("a", seq(str("b"))), 5, 2},
		{"&a{}", anchored("a", dict()), 4, 2},
		{"&a,", anchored("a", null), 2, 2},
		{"&a]", anchored("a", null), 2, 2},
		{"&a}", anchored("a", null), 2, 2},
		{"!!seq[b]", seq(str("b")), 8, 5},
		{"!!map{}", dict(), 7, 5},
		{"!!str, b", str(""), 5, 5},
		{"!!null]", null, 6, 6},
		{"!!str}", str(""), 5, 5},
		{"&a !!seq[]", anchored("a", seq()), 10, 8},
		{"!!seq &a[]", anchored("a", seq()), 10, 8},
	} {
		checkRead(t, c.s, true, c.want, c.n)
		checkFault(t, c.s, false, api.ErrForm, c.at)
	}
	checkMeans(t, "[&a[b], !!map{}, &b, &c !!str]", seq(anchored("a", seq(str("b"))), dict(), anchored("b", null), anchored("c", str(""))))
	checkMeans(t, "{a: &b{}, c: !!seq[], d: &e}", dict(str("a"), anchored("b", dict()), str("c"), seq(), str("d"), anchored("e", null)))
}

func TestReadWhatMayNotStandBehindProperties(t *testing.T) {
	for n := range 256 {
		b := string([]byte{byte(n)})
		if strings.Contains(" "+flowMarks, b) {
			continue
		}
		isName := strings.Contains(nameBytes, b)
		for _, rest := range []string{"", " ", " x", "x", "]"} {
			if !isName {
				checkWrongThere(t, "&ab"+b+rest, api.ErrForm, 3)
				checkWrongThere(t, "!!str"+b+rest, api.ErrForm, 5)
				checkWrongThere(t, "!!int &ab"+b+rest, api.ErrForm, 9)
			} else {
				// It is a part of the word, which is a wrong one then.
				checkWrongThere(t, "!!str"+b+rest, api.ErrForm, 2)
			}
		}
	}
}

func TestReadPropertiesTwice(t *testing.T) {
	checkWrong(t, "&a &b c", api.ErrForm, 3)
	checkWrong(t, "&a &a", api.ErrForm, 3)
	checkWrong(t, "&a &", api.ErrForm, 3)
	checkWrong(t, "&a  !!str  &b c", api.ErrForm, 11)
	checkWrong(t, "!!str !!str c", api.ErrForm, 6)
	checkWrong(t, "!!str !!", api.ErrForm, 6)
	checkWrong(t, "!!str !!int 5", api.ErrForm, 6)
	checkWrong(t, "!!str &a !!str c", api.ErrForm, 9)
	checkWrong(t, "!!null !!no", api.ErrForm, 7)
	checkWrong(t, "&a !b", api.ErrForm, 3)
	checkWrong(t, "&a !", api.ErrForm, 3)
}

func TestReadPropertiesAheadOfAnAlias(t *testing.T) {
	checkWrong(t, "&a *b", api.ErrForm, 3)
	checkWrong(t, "&a  *a", api.ErrForm, 4)
	checkWrong(t, "!!str *b", api.ErrForm, 6)
	checkWrong(t, "!!seq &a *b", api.ErrForm, 9)
	checkWrong(t, "&a !!map *b", api.ErrForm, 9)
	checkWrong(t, "&a *", api.ErrForm, 3)
	// Behind one they stand no better.
	checkWholeFault(t, "*b &a", api.ErrForm, 3)
	checkWholeFault(t, "[*b &a]", api.ErrForm, 4)
}

func TestReadPropertiesBehindAValue(t *testing.T) {
	checkWholeFault(t, "'b' &a", api.ErrForm, 4)
	checkWholeFault(t, "[] !!seq", api.ErrForm, 3)
	checkWholeFault(t, "[[] &a]", api.ErrForm, 4)
	// A plain text goes on over them.
	checkMeans(t, "b &a", str("b &a"))
	checkMeans(t, "5 !!int", str("5 !!int"))
}

func TestReadNames(t *testing.T) {
	for _, long := range []int{1, 2, 31, 32} {
		name := strings.Repeat("n", long)
		checkMeans(t, "*"+name, alias(name))
		checkMeans(t, "&"+name, anchored(name, null))
		checkMeans(t, "&"+name+" b", anchored(name, str("b")))
	}
	for _, long := range []int{33, 34, 64, 1000} {
		name := strings.Repeat("n", long)
		for _, behind := range []string{"", " ", " b", ".", "\xff"} {
			checkWrong(t, "*"+name+behind, api.ErrForm, 33)
			checkWrong(t, "&"+name+behind, api.ErrForm, 33)
			checkWrong(t, "!!str &"+name+behind, api.ErrForm, 39)
		}
	}
	for n := range 256 {
		b := string([]byte{byte(n)})
		if strings.Contains(nameBytes, b) {
			for _, name := range []string{b, b + b, "a" + b, b + "a", "a" + b + "c"} {
				checkMeans(t, "*"+name, alias(name))
				checkMeans(t, "&"+name+" x", anchored(name, str("x")))
			}
			continue
		}
		for _, behind := range []string{"", "a", " ", "]"} {
			checkWrong(t, "*"+b+behind, api.ErrForm, 1)
			checkWrong(t, "&"+b+behind, api.ErrForm, 1)
			checkRead(t, "*a"+b+behind, false, alias("a"), 2)
			checkRead(t, "*a"+b+behind, true, alias("a"), 2)
		}
	}
	checkWrong(t, "*\u00e9", api.ErrForm, 1)
	checkWrong(t, "&\u0430 b", api.ErrForm, 1)
}

// P9.1: tags

func TestReadTags(t *testing.T) {
	words := []string{"null", "bool", "int", "str", "seq", "map"}
	for _, c := range []struct {
		s    string
		kind int    // as if it were plain
		text string // as it is written
	}{
		{"~", 1, "~"}, {"null", 1, "null"}, {"", 1, ""}, {"''", 1, ""}, {`""`, 1, ""}, {"'~'", 1, "~"}, {`"null"`, 1, "null"},
		{"true", 2, "true"}, {"false", 2, "false"}, {"'true'", 2, "true"}, {`"false"`, 2, "false"},
		{"0", 3, "0"}, {"-5", 3, "-5"}, {"'7'", 3, "7"}, {`"-7"`, 3, "-7"}, {`"\x31"`, 3, "1"},
		{"a", 4, "a"}, {"a b", 4, "a b"}, {"007", 4, "007"}, {"'a'", 4, "a"}, {`" 5"`, 4, " 5"}, {"'5 '", 4, "5 "}, {"'-0'", 4, "-0"}, {"'NULL'", 4, "NULL"}, {`"a\n"`, 4, "a\n"}, {"'it''s'", 4, "it's"},
		{"[]", 5, ""}, {"[5]", 5, ""}, {"{}", 6, ""}, {"{a: 5}", 6, ""},
	} {
		for i, word := range words {
			s := strings.TrimRight("!!"+word+" "+c.s, " ")
			kind := i + 1
			switch {
			case kind == 4 && c.kind < 5:
				checkMeans(t, s, str(c.text))
				checkMeans(t, "&x "+s, anchored("x", str(c.text)))
			case kind != c.kind:
				checkWrong(t, s, api.ErrTag, 0)
				checkWrong(t, "&x "+s, api.ErrTag, 3)
			case kind == 1:
				checkMeans(t, s, null)
			case kind < 5:
				checkMeans(t, s, api.Tree{Kind: kind, Text: c.text})
			default:
				untagged, _ := flow.Whole(c.s)
				checkMeans(t, s, untagged)
			}
		}
	}
}

func TestReadWrongTags(t *testing.T) {
	for _, word := range []string{"no", "string", "st", "s", "strs", "Str", "STR", "nul", "null_", "nulls", "Null", "boolean", "boo", "integer", "in", "int5", "int-", "float", "binary", "list", "se", "seqs", "maps", "ma", "mapp", "0", "-", "_", strings.Repeat("s", 100)} {
		for _, behind := range []string{"", " ", " a", " [", " *a", " \xff"} {
			checkWrong(t, "!!"+word+behind, api.ErrForm, 2)
			checkWrong(t, "&a !!"+word+behind, api.ErrForm, 5)
		}
	}
	for n := range 256 {
		b := string([]byte{byte(n)})
		checkWrong(t, "!!"+b, api.ErrForm, 2)
		checkWrong(t, "!!"+b+" a", api.ErrForm, 2)
	}
	checkWrong(t, "!!!str a", api.ErrForm, 2)
	// Of one sign alone no tag is made.
	checkWrong(t, "!str a", api.ErrForm, 0)
	checkWrong(t, "!<str> a", api.ErrForm, 0)
}

func TestReadTellsATagBehindItsValue(t *testing.T) {
	for _, c := range []struct {
		s   string
		why api.Errno
		at  int
	}{
		{"!!int [a", api.ErrEnd, 8},
		{"!!int 'a", api.ErrEnd, 8},
		{"!!int {a: b", api.ErrEnd, 11},
		{"!!int [,]", api.ErrForm, 7},
		{"!!int -", api.ErrForm, 6},
		{"!!int *a", api.ErrForm, 6},
		{`!!int "\q"`, api.ErrForm, 7},
		{"!!int '\xff'", api.ErrUtf, 7},
		{"!!int &", api.ErrEnd, 7},
		{"!!int &a.", api.ErrForm, 8},
		{"!!map [!!int a]", api.ErrTag, 7},
		{"!!map [!!seq []]", api.ErrTag, 0},
		{"!!seq {a: !!bool 5, b: !!null 5}", api.ErrTag, 10},
		{"!!map [!!bool a, 'b]", api.ErrTag, 7},
		{"!!map [a, 'b]", api.ErrEnd, 13},
		// What stands behind the value comes later.
		{"!!int a: b", api.ErrTag, 0},
		{"!!int a # b", api.ErrTag, 0},
		{"!!int 'a' b", api.ErrTag, 0},
		{"!!seq {} x", api.ErrTag, 0},
		{"[!!int a b", api.ErrTag, 1},
		{"[!!int a: b]", api.ErrTag, 1},
		{"[!!seq", api.ErrTag, 1},
		{"{a: !!int", api.ErrTag, 4},
		{"[a, !!null []", api.ErrTag, 4},
	} {
		checkWrongThere(t, c.s, c.why, c.at)
	}
}

// P9.1: how deep

func TestReadDeep(t *testing.T) {
	for _, c := range []struct{ begin, end string }{{"[", "]"}, {"{a: ", "}"}, {"[{a: ", "}]"}, {"{a:[", "]}"}, {"[ &a ", "]"}, {"[!!seq ", "]"}} {
		long := strings.Count(c.begin, "[") + strings.Count(c.begin, "{")
		for deep := 56; deep <= 72; deep += long {
			for _, within := range []string{"a", "[]", "{}"} {
				s := strings.Repeat(c.begin, deep/long) + within + strings.Repeat(c.end, deep/long)
				if c.begin == "[!!seq " && within != "[]" {
					continue
				}
				count, bracket := 0, -1
				for at := range s {
					if s[at] == '[' || s[at] == '{' {
						if count++; count == 65 {
							bracket = at
						}
					}
				}
				if bracket < 0 {
					checkDeepRead(t, s, count)
				} else {
					checkWrongThere(t, s, api.ErrDeep, bracket)
					checkWrongThere(t, s[:bracket+1], api.ErrDeep, bracket)
					checkWrongThere(t, s[:bracket+1]+"\xff", api.ErrDeep, bracket)
				}
			}
		}
	}
	// Brackets side by side are not within one another.
	s := strings.Repeat("[", 63) + strings.Repeat("[], {}, ", 100) + "[]" + strings.Repeat("]", 63)
	checkDeepRead(t, s, 64)
	s = strings.Repeat("[", 63) + "[[], a]" + strings.Repeat("]", 63)
	checkWrongThere(t, s, api.ErrDeep, 64)
}

func checkDeepRead(t *testing.T, s string, deep int) {
	t.Helper()
	for _, inFlow := range both {
		tree, n, f := flow.Read(s, inFlow)
		if n != len(s) || f != (api.Fault{}) || deepOf(tree) != min(deep, 64) || !flow.Right(tree) {
			t.Errorf("Read(%q, %v): %d, %v, %d deep", s, inFlow, n, f, deepOf(tree))
		}
	}
}

func TestReadTellsDepthAheadOfAllBehind(t *testing.T) {
	deep := strings.Repeat("[", 64)
	checkWrongThere(t, deep+"[", api.ErrDeep, 64)
	checkWrongThere(t, deep+"{", api.ErrDeep, 64)
	checkWrongThere(t, deep+"  {", api.ErrDeep, 66)
	checkWrongThere(t, deep+"&a [", api.ErrDeep, 67)
	checkWrongThere(t, deep+"!!int {", api.ErrDeep, 70)
	checkWrongThere(t, deep+"!!no [", api.ErrForm, 66)
	checkWrongThere(t, deep+", [", api.ErrForm, 64)
	checkWrongThere(t, deep, api.ErrEnd, 64)
	checkWrongThere(t, deep+"a", api.ErrEnd, 65)
}

// P9.1: faults

func TestReadLayer7Faults(t *testing.T) {
	for _, quoted := range []string{`'`, `"`, `'a`, `"a`, `"a\`, `"\q"`, `"\x4"`, `"\ud800"`, "'\t'", "\"\n\"", "'a\xff'", "\"a\x00", `"\x`} {
		_, _, f := quote.Read(quoted)
		if f.Why == api.OK {
			t.Fatalf("%q", quoted)
		}
		for _, ahead := range []string{"", " ", "    ", "&a ", "!!int ", "[", "[a, ", "{a: ", "{", "{b: c, ", "[{a: [ ", "&a !!str "} {
			checkWrongThere(t, ahead+quoted, f.Why, len(ahead)+f.At)
		}
	}
}

func TestReadWhatIsMissingAtTheEnd(t *testing.T) {
	for _, s := range []string{
		// A bracket's end.
		"[", "[ ", "[a", "[a ", "[a,", "[a, ", "['a'", "[*a", "[&a", "[!!str", "[[]", "[[", "[[a]", "[a, [b], ", "[~", "[{}", "[a, b",
		"{", "{ ", "{a:", "{a: ", "{a: b", "{a: b ", "{a: b,", "{a: b, ", "{'a':", "{a: []", "{a: {}", "{a: {b: c}", "{a: *b", "{a: &b", "{a: !!str", "{a: 'b'",
		// A colon.
		"{a", "{a ", "{a b", "{'a'", `{"a" `, "{5", "{a: b, c", "{a:b", "[{a", "{a: {b",
		// A name.
		"&", "*", "[&", "[*", "[a, *", "{a: &", "{a: *", "!!str &", "[!!str &", "  &", "  *",
		// A tag's word.
		"!!", "&a !!", "[!!", "{a: !!", "[a, !!", "  !!",
	} {
		checkWrong(t, s, api.ErrEnd, len(s))
	}
}

func TestReadWhatIsMissingAheadOfTheEnd(t *testing.T) {
	for _, c := range []struct {
		s  string
		at int
	}{
		{"[a}", 2}, {"[ }", 2}, {"[a,}", 3}, {"[[]}", 3}, {"['a'}", 4}, {"[*a}", 3}, {"[&a}", 3}, {"[!!str}", 6}, {"[a:", 2}, {"['a':", 4}, {"[[]#", 3}, {"[,", 1}, {"[a,,", 3},
		{"{]", 1}, {"{a: b]", 5}, {"{a: ]", 4}, {"{a:]", 3}, {"{a: b,]", 6}, {"{a: []]", 6}, {"{a: *b]", 6}, {"{,", 1}, {"{a: b,,", 6},
		{"{a}", 2}, {"{a,", 2}, {"{a]", 2}, {"{'a'}", 4}, {"{'a'x", 4}, {"{'a':x", 4}, {"{5}", 2}, {"{a #", 3}, {"{a: b, c}", 8},
		{"& ", 1}, {"* ", 1}, {"&]", 1}, {"*]", 1}, {"[&]", 2}, {"[*]", 2}, {"[*,", 2}, {"{a: &}", 5}, {"{a: *}", 5}, {"&&", 1}, {"**", 1}, {"*&", 1}, {"&.", 1}, {"&\xff", 1},
		{"!! ", 2}, {"!!]", 2}, {"[!!]", 3}, {"[!!,", 3}, {"!!!", 2}, {"!!.", 2}, {"{a: !!}", 6}, {"!!\xff", 2},
	} {
		checkWrong(t, c.s, api.ErrForm, c.at)
	}
}

func TestReadTellsTheFirstFault(t *testing.T) {
	for _, c := range []struct {
		s   string
		why api.Errno
		at  int
	}{
		{"[-, 'a", api.ErrForm, 1},
		{"['a, -", api.ErrEnd, 6},
		{"['\xff', -]", api.ErrUtf, 2},
		{"[-, '\xff']", api.ErrForm, 1},
		{"[!!int a, -]", api.ErrTag, 1},
		{"[-, !!int a]", api.ErrForm, 1},
		{"[!!int a, '\xff']", api.ErrTag, 1},
		{"[!!no a, '\xff']", api.ErrForm, 3},
		{"[a, !!no !!int", api.ErrForm, 6},
		{"{a b, c: d", api.ErrForm, 4},
		{"{'\xff' b", api.ErrUtf, 2},
		{"{'a' '\xff'", api.ErrForm, 5},
		{"{'a':'\xff'", api.ErrForm, 4},
		{"[& *", api.ErrForm, 2},
		{"[* &", api.ErrForm, 2},
		{"[*a &", api.ErrForm, 4},
		{"[&a &", api.ErrForm, 4},
		{"[&a !! &", api.ErrForm, 6},
		{"{a: !!int b, c", api.ErrTag, 4},
		{"{a: !!int 5, c", api.ErrEnd, 14},
		{"[a\xff, 'b", api.ErrForm, 1},
		{"[a, b\xff 'c", api.ErrForm, 4},
		{strings.Repeat("[", 64) + "-, [", api.ErrForm, 64},
		{strings.Repeat("[", 64) + "[-", api.ErrDeep, 64},
		{strings.Repeat("[", 64) + "!!int a, [", api.ErrTag, 64},
	} {
		checkWrongThere(t, c.s, c.why, c.at)
	}
}

// P9.1: all of it against the words written a second time

func TestReadShortTextsOfSigns(t *testing.T) {
	shortTexts([]string{"[", "]", "{", "}", ",", ":", " ", "a", "&", "*", "!", `"`, "#", "-"}, 4, func(s string) { agree(t, s) })
}

func TestReadShortTextsOfParts(t *testing.T) {
	shortTexts([]string{"[", "]", "{", "}", ",", ": ", " ", "a", "'b'", "&a", "*a", "!!str", "!!int", "~"}, 4, func(s string) {
		agree(t, s)
		agree(t, "["+s+"]")
		agree(t, "{a: "+s+"}")
	})
}

func TestReadLongerTextsOfFewParts(t *testing.T) {
	shortTexts([]string{"[", "]", ",", " ", "a"}, 7, func(s string) { agree(t, "["+s) })
	shortTexts([]string{"{", "}", ",", ": ", "a"}, 7, func(s string) { agree(t, "{"+s) })
	shortTexts([]string{"&a", "!!seq", " ", "[", "]", "*b"}, 6, func(s string) { agree(t, s) })
	shortTexts([]string{"'", `"`, ":", " ", "}", ","}, 6, func(s string) { agree(t, "{"+s) })
}

func TestReadDrawn(t *testing.T) {
	draw := rand.New(rand.NewSource(9))
	read := 0
	for range 80000 {
		s := drawnText(draw)
		agree(t, s)
		agree(t, "["+s+"]")
		agree(t, "{"+s)
		if _, f := flow.Whole(s); f.Why == api.OK {
			read++
		}
	}
	if read < 8000 {
		t.Errorf("only %d of them are read", read)
	}
}

func TestReadTextsThatAreTurned(t *testing.T) {
	draw := rand.New(rand.NewSource(91))
	for range 30000 {
		s := laid(draw, drawnTree(draw, 3), false, true)
		for range 1 + draw.Intn(2) {
			at := draw.Intn(len(s) + 1)
			to := min(len(s), at+draw.Intn(3))
			s = s[:at] + one(draw, "", "", " ", ",", ":", ": ", "[", "]", "{", "}", "'", `"`, "&", "*", "!!", "#", "-", "a", "\xff") + s[to:]
			agree(t, s)
		}
	}
}

func TestReadTextsThatAreCutOff(t *testing.T) {
	draw := rand.New(rand.NewSource(92))
	for range 1000 {
		s := laid(draw, drawnTree(draw, 3), false, true)
		for cut := range len(s) {
			agree(t, s[:cut])
		}
	}
}

// P9.1: any text that means a tree is read as it

func TestReadTextsOfTrees(t *testing.T) {
	draw := rand.New(rand.NewSource(93))
	for range 60000 {
		tree := drawnTree(draw, 4)
		for _, inFlow := range both {
			s := laid(draw, tree, inFlow, true)
			ahead := blanks(draw)
			count := len(ahead) + len(s)
			if s == "" {
				count = 0
			}
			checkRead(t, ahead+s, inFlow, tree, count)
			checkRead(t, ahead+s+blanks(draw), inFlow, tree, count)
			if s != "" {
				checkRead(t, ahead+s+" : b", inFlow, tree, count)
			}
			if inFlow {
				checkRead(t, ahead+s+blanks(draw)+one(draw, ",", "]", "}", ", b"), true, tree, count)
			} else {
				checkWhole(t, ahead+s+blanks(draw), tree)
			}
		}
	}
}

func TestReadKnowsNoLimitOfBytesOrTrees(t *testing.T) {
	many := strings.Repeat("a, ", 1<<16)
	tree, n, f := flow.Read("["+many+"]", false)
	if len(tree.Kids) != 1<<16 || n != len(many)+2 || f != (api.Fault{}) || flow.Right(tree) {
		t.Error(len(tree.Kids), n, f)
	}
	checkFault(t, "["+many, false, api.ErrEnd, len(many)+1)
	long := strings.Repeat("ab ", 1<<16) + "c"
	checkRead(t, long, true, str(long), len(long))
	checkRead(t, strings.Repeat(" ", 1<<17)+"c", true, str("c"), 1<<17+1)
}

// P9.1: Whole

func TestWholeAsksForBlanksBehind(t *testing.T) {
	for _, s := range []string{"[]", "'a'", `"a"`, "{a: b}", "*a", "&a []", "!!str 'b'"} {
		want, n, f := flow.Read(s, false)
		if n != len(s) || f.Why != api.OK {
			t.Fatal(s, n, f)
		}
		for long := range 5 {
			behind := strings.Repeat(" ", long)
			checkWhole(t, s+behind, want)
			for _, b := range []string{"]", "}", ",", ":", "#", "# a", "[", "\"", "&a", "!!str", "\t", "\n", "\x00", "\xff", "\u00e9", "\u00a0"} {
				checkWholeFault(t, s+behind+b, api.ErrForm, len(s)+long)
				checkWholeFault(t, s+behind+b+" c", api.ErrForm, len(s)+long)
			}
		}
	}
	checkWholeFault(t, "a: b", api.ErrForm, 1)
	checkWholeFault(t, "a b  : c", api.ErrForm, 5)
	checkWholeFault(t, "a # b", api.ErrForm, 2)
	checkWholeFault(t, "a  #", api.ErrForm, 3)
	checkWholeFault(t, "*a b", api.ErrForm, 3)
	checkWholeFault(t, "*a.", api.ErrForm, 2)
}

func TestWholeIsNotInAFlow(t *testing.T) {
	checkWhole(t, "a, b", str("a, b"))
	checkWhole(t, "a]", str("a]"))
	checkWhole(t, "5, 6", str("5, 6"))
	checkWhole(t, "a:[", str("a:["))
	checkWholeFault(t, "&a[]", api.ErrForm, 2)
	checkWholeFault(t, ",", api.ErrForm, 0)
	checkWholeFault(t, "]", api.ErrForm, 0)
}

func TestWholeOfTooManyBytes(t *testing.T) {
	if api.MaxText != 65536 {
		t.Fatal(api.MaxText)
	}
	fit := strings.Repeat("a", 65536)
	checkWhole(t, fit, str(fit))
	checkWholeFault(t, fit+"a", api.ErrMany, 0)
	checkWhole(t, strings.Repeat(" ", 65535)+"5", number("5"))
	checkWholeFault(t, strings.Repeat(" ", 65536)+"5", api.ErrMany, 0)
	checkWhole(t, "[]"+strings.Repeat(" ", 65534), seq())
	checkWholeFault(t, "[]"+strings.Repeat(" ", 65535), api.ErrMany, 0)
	checkWhole(t, strings.Repeat(" ", 65536), null)
	// Ahead of all else.
	for _, s := range []string{"-", "\xff", "'\xff", "[", "!!int a ", strings.Repeat("[", 65), "a: "} {
		long := s + strings.Repeat(" ", 65536-len(s))
		if _, f := flow.Whole(long); f.Why == api.ErrMany || f.Why == api.OK {
			t.Errorf("%q: %v", s, f)
		}
		checkWholeFault(t, long+" ", api.ErrMany, 0)
		checkWholeFault(t, long+long, api.ErrMany, 0)
	}
	checkWholeFault(t, strings.Repeat("[", 65536), api.ErrDeep, 64)
	checkWholeFault(t, strings.Repeat("[", 65537), api.ErrMany, 0)
	checkWholeFault(t, "["+strings.Repeat(" ", 65535), api.ErrEnd, 65536)
}

// P9.2: Name

func TestName(t *testing.T) {
	if flow.Name("") {
		t.Error("nothing is a name")
	}
	for long := 1; long <= 100; long++ {
		if got := flow.Name(strings.Repeat("a", long)); got != (long <= 32) {
			t.Errorf("%d letters: %v", long, got)
		}
	}
	for n := range 256 {
		b := string([]byte{byte(n)})
		want := strings.Contains(nameBytes, b)
		for _, s := range []string{b, b + "a", "a" + b, "a" + b + "c", b + b, strings.Repeat("a", 31) + b} {
			if got := flow.Name(s); got != want {
				t.Errorf("Name(%q): %v", s, got)
			}
		}
		if flow.Name(strings.Repeat("a", 32) + b) {
			t.Errorf("33 bytes with %q", b)
		}
	}
	for s, want := range map[string]bool{"a b": false, " a": false, "a ": false, "\u00e9": false, "\u0430": false, "a.b": false, "-": true, "_": true, "--": true, "0": true, "null": true, "a1": true, "A-Z_09": true, "*a": false, "&a": false} {
		if got := flow.Name(s); got != want {
			t.Errorf("Name(%q): %v", s, got)
		}
	}
}

// P9.2: Right

func checkRight(t *testing.T, tree api.Tree, want bool) {
	t.Helper()
	if got := flow.Right(tree); got != want {
		t.Errorf("Right(%.300s): %v", fmt.Sprint(tree), got)
	}
	// A tree may be just if it may be within others, too.
	if within := flow.Right(seq(null, tree)); within != want {
		t.Errorf("Right within a Seq (%.300s): %v", fmt.Sprint(tree), within)
	}
	if within := flow.Right(dict(null, tree)); within != want {
		t.Errorf("Right within a Map (%.300s): %v", fmt.Sprint(tree), within)
	}
	if text, e := flow.Write(tree); (e == api.OK) != want || e != api.OK && (e != api.ErrArg || text != "") {
		t.Errorf("Write(%.300s): %.100q, %v", fmt.Sprint(tree), text, e)
	}
}

func TestRight(t *testing.T) {
	for _, tree := range []api.Tree{
		null, boolean("true"), boolean("false"), number("0"), number("-9223372036854775808"), number("9223372036854775807"), str(""), str("a"), str("null"), str("5"), str("\x00\n\ufeff\U0010ffff"), str(strings.Repeat("a", 1<<17)),
		seq(), dict(), seq(null), seq(seq(), dict()), dict(str("a"), null), dict(null, null, boolean("true"), null, number("5"), null, str("5"), null), dict(str("a"), null, str("a"), null), dict(str(""), seq(dict())),
		alias("a"), alias(strings.Repeat("a", 32)), seq(alias("a"), alias("b")), dict(str("a"), alias("a")),
		anchored("a", null), anchored("a", boolean("true")), anchored("0", number("5")), anchored("-", str("")), anchored("_", seq()), anchored("a", dict()), anchored(strings.Repeat("z", 32), seq(anchored("a", null))),
		// That an Alias has its value is no matter of a tree.
		seq(alias("nobody")),
		{Kind: api.Null, Kids: []api.Tree{}}, {Kind: api.Str, Kids: []api.Tree{}}, {Kind: api.Alias, Anchor: "a", Kids: []api.Tree{}},
	} {
		checkRight(t, tree, true)
		agreeTree(t, tree)
	}
}

func TestWhatIsNotRight(t *testing.T) {
	some := []api.Tree{null}
	two := []api.Tree{str("a"), null}
	for _, tree := range []api.Tree{
		// Kind.
		{}, {Kind: 8}, {Kind: -1}, {Kind: 9, Anchor: "a"}, {Kind: 1 << 40}, {Kind: 0, Text: "a"}, {Kind: -4, Text: "a"},
		// Anchor.
		anchored("a b", null), anchored(" ", str("a")), anchored("\u00e9", seq()), anchored("a.", dict()), anchored(strings.Repeat("a", 33), number("5")), anchored("*", boolean("true")), anchored("\xff", null), anchored("a\n", null),
		alias(""), alias("a b"), alias(strings.Repeat("a", 33)), alias("\x00"),
		// Text.
		{Kind: api.Null, Text: "null"}, {Kind: api.Null, Text: "~"}, {Kind: api.Null, Text: " "}, boolean(""), boolean("True"), boolean("1"), boolean("null"), boolean("true "), number(""), number("a"), number("007"), number("-0"), number("+1"), number(" 1"), number("9223372036854775808"), number("true"), str("\xff"), str("a\xc3"), str("\xed\xa0\x80"),
		{Kind: api.Seq, Text: "a"}, {Kind: api.Map, Text: "a"}, {Kind: api.Seq, Text: "[]"}, {Kind: api.Alias, Anchor: "a", Text: "a"}, {Kind: api.Seq, Text: "a", Kids: some}, {Kind: api.Map, Text: "a", Kids: two},
		// Kids.
		{Kind: api.Null, Kids: some}, {Kind: api.Bool, Text: "true", Kids: two}, {Kind: api.Int, Text: "5", Kids: some}, {Kind: api.Str, Text: "a", Kids: two}, {Kind: api.Alias, Anchor: "a", Kids: some},
		dict(null), dict(str("a"), null, str("b")), dict(str("a"), null, str("b"), null, null),
		// Keys.
		dict(seq(), null), dict(dict(), null), dict(alias("a"), null), dict(anchored("a", str("a")), null), dict(anchored("a", null), null), dict(anchored("a", number("5")), null), dict(str("a"), null, seq(), null), dict(str("a"), null, anchored("b", boolean("true")), null), dict(str("\xff"), null), dict(number("x"), null), dict(boolean(""), null), dict(api.Tree{Kind: api.Null, Text: "~"}, null), dict(api.Tree{}, null), dict(api.Tree{Kind: 9}, null), dict(api.Tree{Kind: api.Str, Kids: some}, null),
		// Within others.
		seq(api.Tree{}), seq(null, str("\xff")), seq(seq(seq(alias("")))), dict(str("a"), api.Tree{}), dict(str("a"), dict(null)), dict(str("a"), seq(null, number("x"))), seq(null, null, anchored(" ", null)),
	} {
		checkRight(t, tree, false)
		agreeTree(t, tree)
	}
	for _, kind := range []int{-1 << 63, -7, -1, 0, 8, 9, 14, 1<<63 - 1} {
		for _, tree := range []api.Tree{{Kind: kind}, {Kind: kind, Text: "true"}, {Kind: kind, Text: "5", Anchor: "a"}, {Kind: kind, Kids: two}} {
			checkRight(t, tree, false)
		}
	}
}

// nested is a tree within many Seqs, or Maps, or both.
func nested(within api.Tree, deep int, isMap func(int) bool) api.Tree {
	for i := range deep {
		if isMap(i) {
			within = dict(str("k"), within)
		} else {
			within = seq(within)
		}
	}
	return within
}

func TestRightAsksHowDeep(t *testing.T) {
	for _, isMap := range []func(int) bool{
		func(int) bool { return false }, func(int) bool { return true }, func(i int) bool { return i%2 == 0 }, func(i int) bool { return i%3 == 0 },
	} {
		for deep := 60; deep <= 70; deep++ {
			for _, within := range []api.Tree{null, alias("a"), str("a")} {
				tree := nested(within, deep, isMap)
				if got := flow.Right(tree); got != (deep <= 64) {
					t.Errorf("%d deep: %v", deep, got)
				}
			}
			for _, within := range []api.Tree{seq(), dict()} {
				tree := nested(within, deep, isMap)
				if got := flow.Right(tree); got != (deep < 64) {
					t.Errorf("an empty one within %d: %v", deep, got)
				}
				if _, e := flow.Write(tree); (e == api.OK) != (deep < 64) {
					t.Errorf("Write of an empty one within %d: %v", deep, e)
				}
			}
		}
	}
	// Side by side they are not within one another.
	wide := nested(null, 63, func(int) bool { return false })
	if !flow.Right(seq(wide, wide, wide, seq())) || flow.Right(seq(null, seq(wide))) {
		t.Error("wide ones")
	}
}

func TestRightAsksHowMany(t *testing.T) {
	list := func(many int) []api.Tree {
		kids := make([]api.Tree, many)
		for i := range kids {
			kids[i] = number("5")
		}
		return kids
	}
	for _, c := range []struct {
		tree api.Tree
		want bool
	}{
		{seq(list(4094)...), true}, {seq(list(4095)...), true}, {seq(list(4096)...), false}, {seq(list(5000)...), false},
		{dict(list(4094)...), true}, {dict(list(4096)...), false},
		{dict(str("a"), seq(list(4093)...)), true}, {dict(str("a"), seq(list(4094)...)), false},
		{seq(seq(list(2000)...), seq(list(2093)...)), true}, {seq(seq(list(2000)...), seq(list(2094)...)), false},
		{seq(append(list(4093), alias("a"), anchored("a", str("b")))...), true}, {seq(append(list(4094), alias("a"), anchored("a", str("b")))...), false},
	} {
		if got := flow.Right(c.tree); got != c.want || got != wantRight(c.tree) {
			t.Errorf("%d trees: %v", countOf(c.tree), got)
		}
		text, e := flow.Write(c.tree)
		if (e == api.OK) != c.want {
			t.Errorf("Write of %d trees: %v", countOf(c.tree), e)
		}
		if c.want {
			checkRead(t, text, true, c.tree, len(text))
		}
	}
}

func TestRightEndsOnTreesWithoutAnEnd(t *testing.T) {
	// Each of these is among its own Kids, or has as many parts as no memory holds.
	kids := make([]api.Tree, 2)
	kids[0] = seq()
	kids[0].Kids, kids[1] = kids, seq(kids...)
	entry := []api.Tree{str("a"), dict()}
	entry[1].Kids = entry
	wide := seq(null, null)
	for range 62 {
		wide = seq(wide, wide)
	}
	for _, tree := range []api.Tree{seq(kids...), dict(entry...), wide} {
		if flow.Right(tree) {
			t.Error("it may not be")
		}
		if s, e := flow.Write(tree); s != "" || e != api.ErrArg {
			t.Error(s, e)
		}
	}
}

// P9.2: Same

func TestSame(t *testing.T) {
	deep := anchored("x", seq(number("1"), dict(str("b"), null, str("c"), alias("x")), str("2")))
	again := anchored("x", seq(number("1"), dict(str("b"), null, str("c"), alias("x")), str("2")))
	list := []api.Tree{
		deep,
		seq(deep.Kids...),
		anchored("y", seq(deep.Kids...)),
		anchored("x", seq(deep.Kids[:2]...)),
		anchored("x", seq(deep.Kids[1:]...)),
		anchored("x", dict(deep.Kids...)),
		anchored("x", seq(number("1"), dict(str("b"), null, str("c"), alias("y")), str("2"))),
		anchored("x", seq(number("1"), dict(str("c"), null, str("b"), alias("x")), str("2"))),
		anchored("x", seq(number("1"), dict(str("b"), anchored("x", null), str("c"), alias("x")), str("2"))),
		anchored("x", seq(number("1"), seq(str("b"), null, str("c"), alias("x")), str("2"))),
		anchored("x", seq(number("1"), dict(str("b"), null, str("c"), alias("x")), number("2"))),
		anchored("x", seq(number("1"), dict(str("b"), null, str("c"), alias("x")), str("2"), null)),
		anchored("x", seq(dict(str("b"), null, str("c"), alias("x")), number("1"), str("2"))),
		null, boolean("true"), boolean("false"), number("1"), number("2"), str("1"), str(""), str("true"), str("a"), str("a "), seq(), dict(), seq(null), seq(null, null), seq(seq()), dict(null, null), dict(null, null, null, null), alias("a"), alias("b"), anchored("a", null), anchored("b", null), anchored("a", str("a")),
		// Trees that may not be are the same, or not, as others are.
		{}, {Kind: 8}, {Kind: -1}, {Text: "a"}, {Anchor: "a"}, {Kids: []api.Tree{{}}}, {Kind: api.Null, Text: "null"}, {Kind: api.Str, Text: "a", Kids: []api.Tree{null}}, str("\xff"), str("\xfe"), alias(""), dict(null),
	}
	for i, a := range list {
		for k, b := range list {
			if got := flow.Same(a, b); got != (i == k) {
				t.Errorf("Same(%v, %v): %v", a, b, got)
			}
		}
	}
	if !flow.Same(deep, again) || !flow.Same(again, deep) {
		t.Error("the same, made a second time")
	}
}

func TestSameOfNoKids(t *testing.T) {
	for _, kind := range []int{0, api.Null, api.Str, api.Seq, api.Map, api.Alias} {
		none, empty := api.Tree{Kind: kind}, api.Tree{Kind: kind, Kids: []api.Tree{}}
		long := api.Tree{Kind: kind, Kids: make([]api.Tree, 0, 8)}
		if !flow.Same(none, empty) || !flow.Same(empty, none) || !flow.Same(seq(none), seq(empty)) || !flow.Same(long, none) {
			t.Errorf("kind %d", kind)
		}
		if flow.Same(none, api.Tree{Kind: kind, Kids: []api.Tree{{}}}) {
			t.Errorf("kind %d, with one", kind)
		}
	}
}

func TestSameOfDrawnTrees(t *testing.T) {
	draw := rand.New(rand.NewSource(94))
	same := 0
	for range 100000 {
		a, b := drawnTree(draw, 2), drawnTree(draw, 2)
		if got := flow.Same(a, b); got != isSame(a, b) {
			t.Errorf("Same(%v, %v): %v", a, b, got)
		}
		if isSame(a, b) {
			same++
		}
		if !flow.Same(a, copied(a)) {
			t.Errorf("%v is not the same as its copy", a)
		}
	}
	if same < 500 {
		t.Errorf("only %d are", same)
	}
}

func copied(t api.Tree) api.Tree {
	kids := make([]api.Tree, 0, len(t.Kids)+1)
	for _, kid := range t.Kids {
		kids = append(kids, copied(kid))
	}
	t.Kids = kids
	return t
}

// P9.3

func TestScalar(t *testing.T) {
	for _, c := range []struct {
		tree api.Tree
		line string // not in a flow
		too  string // in one
	}{
		{null, "null", "null"}, {boolean("true"), "true", "true"}, {boolean("false"), "false", "false"}, {number("5"), "5", "5"}, {number("-7"), "-7", "-7"},
		{str("a"), "a", "a"}, {str("a b"), "a b", "a b"}, {str("it's"), "it's", "it's"}, {str("007"), "007", "007"}, {str("a:b"), "a:b", "a:b"}, {str("\u00e9"), "\u00e9", "\u00e9"},
		// Plain, but of another kind.
		{str("null"), `"null"`, `"null"`}, {str("~"), `"~"`, `"~"`}, {str("true"), `"true"`, `"true"`}, {str("false"), `"false"`, `"false"`}, {str("5"), `"5"`, `"5"`}, {str("-5"), `"-5"`, `"-5"`}, {str(""), `""`, `""`},
		// Plain, but not in a flow.
		{str("a, b"), "a, b", `"a, b"`}, {str("a]"), "a]", `"a]"`}, {str("a[0]"), "a[0]", `"a[0]"`}, {str("{"), `"{"`, `"{"`}, {str("a{}"), "a{}", `"a{}"`}, {str("a:,"), "a:,", `"a:,"`}, {str("-,"), "-,", `"-,"`}, {str("5,"), "5,", `"5,"`},
		// Not plain.
		{str(" a"), `" a"`, `" a"`}, {str("a "), `"a "`, `"a "`}, {str("a: b"), `"a: b"`, `"a: b"`}, {str("a #b"), `"a #b"`, `"a #b"`}, {str("-"), `"-"`, `"-"`}, {str("*a"), `"*a"`, `"*a"`}, {str("&a"), `"&a"`, `"&a"`}, {str("!!str"), `"!!str"`, `"!!str"`}, {str("'"), `"'"`, `"'"`}, {str(`"`), `"\""`, `"\""`}, {str(`a\`), `a\`, `a\`}, {str("a\nb"), `"a\nb"`, `"a\nb"`}, {str("\x00"), `"\0"`, `"\0"`}, {str("\ufeff"), `"\ufeff"`, `"\ufeff"`},
		// No text at all.
		{str("\xff"), "", ""}, {str("a\xc3"), "", ""}, {str("\xed\xa0\x80"), "", ""},
		// No scalar.
		{seq(), "", ""}, {seq(str("a")), "", ""}, {dict(), "", ""}, {alias("a"), "", ""}, {api.Tree{}, "", ""}, {api.Tree{Text: "a"}, "", ""}, {api.Tree{Kind: 8, Text: "a"}, "", ""}, {api.Tree{Kind: -1, Text: "a"}, "", ""}, {api.Tree{Kind: api.Seq, Text: "a"}, "", ""}, {api.Tree{Kind: api.Alias, Text: "a"}, "", ""},
		// It asks for no more: an Anchor stands ahead of it, and trees that may not be have a text, too.
		{anchored("x", null), "null", "null"}, {anchored("x", str("a")), "a", "a"}, {anchored("not a name", number("5")), "5", "5"}, {api.Tree{Kind: api.Null, Text: "a"}, "null", "null"}, {boolean("x"), "x", "x"}, {boolean(""), "", ""}, {number("a, b"), "a, b", "a, b"}, {number("\xff"), "\xff", "\xff"}, {api.Tree{Kind: api.Str, Text: "a", Kids: []api.Tree{null}}, "a", "a"},
	} {
		if got := flow.Scalar(c.tree, false); got != c.line {
			t.Errorf("Scalar(%v, false): %q, not %q", c.tree, got, c.line)
		}
		if got := flow.Scalar(c.tree, true); got != c.too {
			t.Errorf("Scalar(%v, true): %q, not %q", c.tree, got, c.too)
		}
	}
}

func TestWrite(t *testing.T) {
	a, b := str("a"), str("b")
	for _, c := range []struct {
		tree api.Tree
		want string
	}{
		{null, "null"}, {boolean("true"), "true"}, {number("-5"), "-5"}, {a, "a"}, {str(""), `""`}, {str("5"), `"5"`}, {str("a, b"), `"a, b"`}, {str("a\n"), `"a\n"`},
		{seq(), "[]"}, {dict(), "{}"}, {seq(a), "[a]"}, {seq(a, b), "[a, b]"}, {seq(a, b, null), "[a, b, null]"}, {dict(a, b), "{a: b}"}, {dict(a, b, b, a), "{a: b, b: a}"}, {dict(a, null), "{a: null}"}, {dict(null, null), "{null: null}"}, {dict(number("5"), a, str("5"), b), `{5: a, "5": b}`}, {dict(boolean("true"), a), "{true: a}"},
		{seq(seq(), dict()), "[[], {}]"}, {seq(seq(a), seq(b)), "[[a], [b]]"}, {dict(a, dict(b, seq(a, b))), "{a: {b: [a, b]}}"}, {dict(str("a: b"), str("a:")), `{"a: b": "a:"}`},
		{alias("a"), "*a"}, {seq(alias("a"), alias("b")), "[*a, *b]"}, {dict(a, alias("b")), "{a: *b}"},
		{anchored("x", null), "&x null"}, {anchored("x", a), "&x a"}, {anchored("x", str("5")), `&x "5"`}, {anchored("x", seq()), "&x []"}, {anchored("x", dict()), "&x {}"}, {anchored("x", seq(anchored("y", a), alias("x"))), "&x [&y a, *x]"}, {dict(a, anchored("x", dict(b, anchored("y", null)))), "{a: &x {b: &y null}}"},
		{anchored("a", seq(number("1"), dict(b, null), str("2"))), `&a [1, {b: null}, "2"]`},
	} {
		if got, e := flow.Write(c.tree); got != c.want || e != api.OK {
			t.Errorf("Write(%v): %q, %v, not %q", c.tree, got, e, c.want)
		}
		agreeTree(t, c.tree)
	}
}

func TestWriteOfDrawnTrees(t *testing.T) {
	draw := rand.New(rand.NewSource(95))
	for range 50000 {
		agreeTree(t, drawnTree(draw, 4))
	}
}

// turned has one field of one of its trees turned, which it then may not be any more.
func turned(draw *rand.Rand, t api.Tree) api.Tree {
	t = copied(t)
	at := &t
	for len(at.Kids) > 0 && draw.Intn(3) > 0 {
		at = &at.Kids[draw.Intn(len(at.Kids))]
	}
	switch draw.Intn(5) {
	case 0:
		at.Kind = draw.Intn(11) - 1
	case 1:
		at.Text = one(draw, "", "a", "true", "5", "null", "~", "\xff", "007", "\n")
	case 2:
		at.Anchor = one(draw, "", "a", "a b", strings.Repeat("a", 32), strings.Repeat("a", 33), "\xff", "-")
	case 3:
		at.Kids = append(at.Kids, drawnTree(draw, 1))
	case 4:
		if len(at.Kids) > 0 {
			at.Kids = at.Kids[1:]
		}
	}
	return t
}

func TestTreesThatAreTurned(t *testing.T) {
	draw := rand.New(rand.NewSource(96))
	right := 0
	for range 100000 {
		tree := turned(draw, drawnTree(draw, 3))
		agreeTree(t, tree)
		if flow.Right(tree) {
			right++
		}
	}
	if right < 10000 || right > 90000 {
		t.Errorf("%d of them may be", right)
	}
}

// P9.4

// checkReadBack asks that a tree that is written is read, wherever its text stands.
func checkReadBack(t *testing.T, tree api.Tree) {
	t.Helper()
	s, e := flow.Write(tree)
	if e != api.OK {
		t.Errorf("Write(%v): %v", tree, e)
		return
	}
	for _, inFlow := range both {
		checkRead(t, s, inFlow, tree, len(s))
	}
	checkRead(t, s+", b", true, tree, len(s))
	if len(s) <= api.MaxText {
		checkWhole(t, s, tree)
	}
	if deepOf(tree) < 64 {
		for _, around := range []api.Tree{seq(tree), seq(tree, tree), dict(str("k"), tree, str("l"), tree)} {
			s, _ := flow.Write(around)
			checkRead(t, s, false, around, len(s))
		}
	}
}

func TestWhatIsWrittenIsRead(t *testing.T) {
	draw := rand.New(rand.NewSource(97))
	for range 50000 {
		checkReadBack(t, drawnTree(draw, 4))
	}
	for _, deep := range []int{1, 2, 63, 64} {
		checkReadBack(t, nested(null, deep, func(i int) bool { return i%2 == 0 }))
		checkReadBack(t, nested(str("a, b"), deep, func(int) bool { return true }))
	}
	checkReadBack(t, str(strings.Repeat("a\n", 1<<16)))
}

func TestEveryShortStrIsRead(t *testing.T) {
	shortTexts([]string{" ", ":", "#", "-", ",", "]", "{", "a", "'", `"`, `\`, "&", "*", "!", "~", "0", "\n", "\x00", "\u00e9"}, 3, func(s string) {
		for _, tree := range []api.Tree{str(s), seq(str(s), str(s)), dict(str(s), str(s)), anchored("x", str(s))} {
			text, e := flow.Write(tree)
			if e != api.OK {
				t.Errorf("Write(%v): %v", tree, e)
			}
			checkWhole(t, text, tree)
		}
		// Not in a flow it is read where no flow is.
		if text := flow.Scalar(str(s), false); text != "" {
			checkWhole(t, text, str(s))
			checkRead(t, text+" # b", false, str(s), len(text))
		}
	})
	for _, n := range []int{0, 1, -1, 10, 1<<63 - 1, -1 << 63} {
		checkReadBack(t, number(plain.Text(n)))
		checkReadBack(t, str(plain.Text(n)))
	}
}

// P9.5

// readAgain asks that what is read may be, and is read again when it was written; it tells whether it was read.
func readAgain(t *testing.T, s string, inFlow bool) bool {
	t.Helper()
	tree, n, f := flow.Read(s, inFlow)
	if f.Why != api.OK {
		return false
	}
	if n < 0 || n > len(s) || n > 0 && s[n-1] == ' ' {
		t.Errorf("Read(%q, %v): %d bytes", s, inFlow, n)
	}
	if !flow.Right(tree) {
		t.Errorf("Read(%q, %v): %v may not be", s, inFlow, tree)
	}
	checkReadBack(t, tree)
	return true
}

func TestWhatIsReadIsReadAgain(t *testing.T) {
	count := 0
	try := func(s string) {
		for _, inFlow := range both {
			if readAgain(t, s, inFlow) {
				count++
			}
		}
	}
	shortTexts([]string{"[", "]", "{", "}", ",", ": ", " ", "a", "'5'", "&a", "*a", "!!str", "!!int", "~"}, 4, try)
	draw := rand.New(rand.NewSource(98))
	for range 20000 {
		s := drawnText(draw)
		try(s)
		try("[" + s + "]")
		try(laid(draw, drawnTree(draw, 4), false, true))
	}
	if count < 50000 {
		t.Errorf("only %d of them are read", count)
	}
}

func TestWhatIsReadMayHaveTooManyTrees(t *testing.T) {
	for _, many := range []int{4094, 4095, 4096, 4097} {
		tree, f := flow.Whole("[" + strings.Repeat("a,", many) + "]")
		if f.Why != api.OK || len(tree.Kids) != many || flow.Right(tree) != (many < 4096) {
			t.Errorf("%d: %v, %d, %v", many, f, len(tree.Kids), flow.Right(tree))
		}
	}
}

// P9.6

func TestBlanksAroundTurnNothing(t *testing.T) {
	count := 0
	try := func(s string) {
		want, fault := flow.Whole(s)
		for _, c := range [][2]string{{" ", ""}, {"", " "}, {"  ", "   "}, {"     ", " "}} {
			around := c[0] + s + c[1]
			got, f := flow.Whole(around)
			if fault.Why == api.OK {
				count++
				if !isSame(got, want) || f != fault {
					t.Errorf("Whole(%q): %v, %v, not %v", around, got, f, want)
				}
			} else if c[1] == "" && f != (api.Fault{Why: fault.Why, At: fault.At + len(c[0])}) {
				t.Errorf("Whole(%q): %v, not %v, moved", around, f, fault)
			}
		}
		for _, inFlow := range both {
			want, n, fault := flow.Read(s, inFlow)
			if fault.Why != api.OK {
				checkFault(t, "   "+s, inFlow, fault.Why, fault.At+3)
				continue
			}
			if n > 0 {
				checkRead(t, "   "+s, inFlow, want, n+3)
			}
			checkRead(t, s[:n]+"   ", inFlow, want, n)
		}
	}
	shortTexts([]string{"[", "]", "{", "}", ",", ": ", " ", "a", "'b'", "&a", "*a", "!!str", "!!int", "#", "-"}, 4, try)
	draw := rand.New(rand.NewSource(99))
	for range 50000 {
		try(drawnText(draw))
		try(laid(draw, drawnTree(draw, 3), false, true))
	}
	if count < 100000 {
		t.Errorf("only %d of them are read", count)
	}
}

func TestBlanksBetweenPartsTurnNothing(t *testing.T) {
	parts := []string{"", "&a", " ", "[", "1", ",", "{", "b", ": ", "~", ",", "'c'", ": ", "*a", ",", "}", ",", "!!str", " ", "2", ",", "[", "]", ",", "]", ""}
	want := anchored("a", seq(number("1"), dict(str("b"), null, str("c"), alias("a")), str("2"), seq()))
	for at := range parts {
		for long := range 4 {
			ahead, behind := strings.Join(parts[:at], ""), strings.Join(parts[at:], "")
			checkWhole(t, ahead+strings.Repeat(" ", long)+behind, want)
		}
	}
	for long := range 4 {
		checkWhole(t, strings.Join(parts, strings.Repeat(" ", long)), want)
	}
}

// R4 and R6

func TestAnswersAreTheCallers(t *testing.T) {
	const s = "&a [1, {b: ~, c: [d]}, !!str 2]"
	first, _ := flow.Whole(s)
	second, _ := flow.Whole(s)
	every(first, func(t api.Tree) bool {
		for i := range t.Kids {
			t.Kids[i].Text = "turned"
		}
		_ = append(t.Kids, api.Tree{Kind: 99})
		return true
	})
	if want, _, _ := wantRead(s, false); !isSame(second, want) {
		t.Error(second)
	}
}

func TestListsWithinOneAnswerShareNothing(t *testing.T) {
	tree, _ := flow.Whole("[[a, b], [c, d], {e: f}, []]")
	for i := range tree.Kids {
		_ = append(tree.Kids[i].Kids, api.Tree{Kind: 99})
		for k := range tree.Kids[i].Kids {
			tree.Kids[i].Kids[k] = number(plain.Text(10*i + k))
		}
	}
	want := seq(seq(number("0"), number("1")), seq(number("10"), number("11")), dict(number("20"), number("21")), seq())
	if !isSame(tree, want) {
		t.Error(tree)
	}
}

func TestArgumentsStayAsTheyAre(t *testing.T) {
	draw := rand.New(rand.NewSource(100))
	for range 1000 {
		tree := turned(draw, drawnTree(draw, 3))
		before := copied(tree)
		flow.Right(tree)
		flow.Write(tree)
		flow.Scalar(tree, true)
		flow.Same(tree, before)
		if !isSame(tree, before) {
			t.Errorf("%v, not %v", tree, before)
		}
	}
}
