package rows_test

import (
	"math"
	"slices"
	"strings"
	"testing"

	"grommet/api"
	"grommet/rows"
	"grommet/utf"
)

func none(f api.Fault) bool { return f == api.Fault{} }

func at(why api.Errno, line int) api.Fault { return api.Fault{Why: why, At: line} }

func row(col int, text string, at int) api.Row { return api.Row{Col: col, Text: text, At: at} }

func read(t *testing.T, s string) []api.Row {
	t.Helper()
	l, f := rows.Read(s)
	if !none(f) {
		t.Fatalf("Read(%q): %v", s, f)
	}
	return l
}

// short are texts of up to long bytes of those given, each one handed to a function.
func short(bytes string, long int, try func(string)) {
	try("")
	if long == 0 {
		return
	}
	var grow func(string)
	grow = func(s string) {
		for i := range len(bytes) {
			next := s + bytes[i:i+1]
			try(next)
			if len(next) < long {
				grow(next)
			}
		}
	}
	grow("")
}

// wantLines goes byte by byte, where the package cuts.
func wantLines(s string) []string {
	var lines []string
	begin := 0
	for i := range len(s) {
		if s[i] != 10 {
			continue
		}
		end := i
		if end > begin && s[end-1] == 13 {
			end--
		}
		lines = append(lines, s[begin:end])
		begin = i + 1
	}
	if begin < len(s) {
		lines = append(lines, s[begin:])
	}
	return lines
}

// wantRead asks for each kind of fault on its own, and for the earlier one then.
func wantRead(s string) ([]api.Row, api.Fault) {
	if len(s) > 65536 {
		return nil, api.Fault{Why: 5}
	}
	var list []api.Row
	notText, tabbed := 0, 0
	for i, line := range wantLines(s) {
		row := api.Row{At: i + 1}
		for row.Col < len(line) && line[row.Col] == 32 {
			row.Col++
		}
		end := len(line)
		for end > row.Col && line[end-1] == 32 {
			end--
		}
		row.Text = line[row.Col:end]
		list = append(list, row)
		if notText == 0 && (strings.Contains(line, "\r") || !none(utf.Check(line))) {
			notText = i + 1
		}
		if tabbed == 0 && strings.HasPrefix(row.Text, "\t") {
			tabbed = i + 1
		}
	}
	switch {
	case notText > 0 && (tabbed == 0 || notText <= tabbed):
		return nil, at(8, notText)
	case tabbed > 0:
		return nil, at(9, tabbed)
	}
	return list, api.Fault{}
}

// P2.1

func TestLines(t *testing.T) {
	for _, c := range []struct {
		s    string
		want []string
	}{
		{"", nil},
		{"a", []string{"a"}},
		{"a\n", []string{"a"}},
		{"a\nb", []string{"a", "b"}},
		{"a\nb\n", []string{"a", "b"}},
		{"a\r\nb\r\n", []string{"a", "b"}},
		{"a\r\nb\nc", []string{"a", "b", "c"}},
		{"\n", []string{""}},
		{"\r\n", []string{""}},
		{"\n\n", []string{"", ""}},
		{"\n\r\n\n", []string{"", "", ""}},
		{"a\n\nb", []string{"a", "", "b"}},
		{"  a  \n\t\n# c", []string{"  a  ", "\t", "# c"}},
		{" ", []string{" "}},
		{"a\n ", []string{"a", " "}},
		// 13 is no end without 10 behind it.
		{"\r", []string{"\r"}},
		{"a\r", []string{"a\r"}},
		{"a\rb\n", []string{"a\rb"}},
		{"a\r\r\n", []string{"a\r"}},
		{"a\n\rb", []string{"a", "\rb"}},
		{"a\n\r", []string{"a", "\r"}},
		// Other signs that elsewhere end lines are none here.
		{"a\u0085b\u2028c\u2029d\ve\ff", []string{"a\u0085b\u2028c\u2029d\ve\ff"}},
		{"\xff\n\x00", []string{"\xff", "\x00"}},
	} {
		if got := rows.Lines(c.s); !slices.Equal(got, c.want) {
			t.Errorf("Lines(%q): %q, not %q", c.s, got, c.want)
		}
	}
}

func TestLinesOfShortTexts(t *testing.T) {
	short("a\r\n ", 7, func(s string) {
		if got, want := rows.Lines(s), wantLines(s); !slices.Equal(got, want) {
			t.Fatalf("Lines(%q): %q, not %q", s, got, want)
		}
	})
}

func TestLinesKnowsNoLimit(t *testing.T) {
	if got := rows.Lines(strings.Repeat("a\n", api.MaxText)); len(got) != api.MaxText {
		t.Error(len(got))
	}
	if got := rows.Lines(strings.Repeat("a", 2*api.MaxText)); len(got) != 1 || len(got[0]) != 2*api.MaxText {
		t.Error(len(got))
	}
}

func TestRead(t *testing.T) {
	for _, c := range []struct {
		s    string
		want []api.Row
	}{
		{"", nil},
		{"a:\n  b\n# c", []api.Row{row(0, "a:", 1), row(2, "b", 2), row(0, "# c", 3)}},
		{"a:\n  b\n# c\n", []api.Row{row(0, "a:", 1), row(2, "b", 2), row(0, "# c", 3)}},
		{"a:\r\n  b\r\n", []api.Row{row(0, "a:", 1), row(2, "b", 2)}},
		{"   a b   ", []api.Row{row(3, "a b", 1)}},
		{"a   \r\n", []api.Row{row(0, "a", 1)}},
		// Empty rows, and rows that are notes, have their columns too.
		{"\n", []api.Row{row(0, "", 1)}},
		{"\n\n  \n", []api.Row{row(0, "", 1), row(0, "", 2), row(2, "", 3)}},
		{"    ", []api.Row{row(4, "", 1)}},
		{"   \r\n", []api.Row{row(3, "", 1)}},
		{"  # c  \n#\n   #\t", []api.Row{row(2, "# c", 1), row(0, "#", 2), row(3, "#\t", 3)}},
		// Only 32 is a blank; 9 may stand anywhere but at the beginning.
		{"a\t\n", []api.Row{row(0, "a\t", 1)}},
		{"a\t  \n", []api.Row{row(0, "a\t", 1)}},
		{" a \t b", []api.Row{row(1, "a \t b", 1)}},
		{"\u00a0a\u00a0", []api.Row{row(0, "\u00a0a\u00a0", 1)}},
		// A note within a row is left where it is.
		{"a # b\n", []api.Row{row(0, "a # b", 1)}},
		{"  \u00e9\u20ac\U0001f600\u0085\n", []api.Row{row(2, "\u00e9\u20ac\U0001f600\u0085", 1)}},
	} {
		got, f := rows.Read(c.s)
		if !none(f) || !slices.Equal(got, c.want) {
			t.Errorf("Read(%q): %v, %v, not %v", c.s, got, f, c.want)
		}
	}
}

func TestReadTooMany(t *testing.T) {
	for _, s := range []string{
		strings.Repeat("a", api.MaxText),
		strings.Repeat(" ", api.MaxText),
		strings.Repeat("\n", api.MaxText),
		strings.Repeat("a\r\n", api.MaxText/3) + "\n",
		strings.Repeat("\u00e9", api.MaxText/2),
	} {
		if len(s) != 1<<16 {
			t.Fatal(len(s))
		}
		if l, f := rows.Read(s); !none(f) || len(l) != len(rows.Lines(s)) {
			t.Errorf("%d bytes, %q and so on: %d rows, %v", len(s), s[:3], len(l), f)
		}
		// It is the first error, whatever else is wrong, and has no line.
		for _, more := range []string{"a", "\n", " ", "\xff", "\t", "\r"} {
			for _, long := range []string{s + more, more + s} {
				if l, f := rows.Read(long); len(l) != 0 || f != at(api.ErrMany, 0) {
					t.Errorf("%d bytes with %q: %d rows, %v", len(long), more, len(l), f)
				}
			}
		}
	}
}

func TestReadNoText(t *testing.T) {
	for _, bad := range []string{
		// A byte 13 that stands elsewhere.
		"\r\r", "a\rb", "\ra", "a\r\r", "# \r#", "  \r ",
		// Bytes that are no sign's.
		"\xff", "a\x80", "\xc3", "\xe2\x82", "\xc0\x80", "\xed\xa0\x80", "\xf4\x90\x80\x80", "# \xff", "  \xfe",
		// Signs that are not printable.
		"\x00", "a\x01", "\x0b", "\x0c", "\x1b", "\x7f", "\u0080", "\u0084", "\u0086", "\u009f", "\ufeff", "\ufffe", "\uffff", "# \x07",
	} {
		for n, ahead := range []string{"", "a\n", "a\r\n  b\n", "\n# c\n \n"} {
			for _, behind := range []string{"\n", "\r\n", "\nb", "\n\xff\n", "\n\tb"} {
				s := ahead + bad + behind
				if l, f := rows.Read(s); len(l) != 0 || f != at(api.ErrUtf, n+1) {
					t.Errorf("Read(%q): %v, %v", s, l, f)
				}
			}
		}
	}
	// At the text's end it is not a line's end either.
	for _, s := range []string{"a\nb\r", "a\n\r", "a\r\n\xc3"} {
		if l, f := rows.Read(s); len(l) != 0 || f != at(api.ErrUtf, 2) {
			t.Errorf("Read(%q): %v, %v", s, l, f)
		}
	}
	// A sign that a line's end cuts is none on either side.
	if l, f := rows.Read("a\n\xe2\n\x82\xac"); len(l) != 0 || f != at(api.ErrUtf, 2) {
		t.Error(l, f)
	}
}

func TestReadTab(t *testing.T) {
	for _, bad := range []string{"\t", "\ta", "  \ta", "\t  ", " \t", "\t# c", "\t\t", "\t\r"} {
		for n, ahead := range []string{"", "a\t\n", "a\n # \t c\r\n", "\n\n\n"} {
			for _, behind := range []string{"\n", "\nb\n", "\n\tb", "\n\xff"} {
				s := ahead + bad + behind
				if l, f := rows.Read(s); len(l) != 0 || f != at(api.ErrTab, n+1) {
					t.Errorf("Read(%q): %v, %v", s, l, f)
				}
			}
		}
	}
}

func TestReadWhichFault(t *testing.T) {
	for _, c := range []struct {
		s    string
		want api.Fault
	}{
		{"\ta\n\xff\n", at(api.ErrTab, 1)},
		{"\xff\n\ta\n", at(api.ErrUtf, 1)},
		{"\t\xff\n", at(api.ErrUtf, 1)},
		{"\t\ra\n", at(api.ErrUtf, 1)},
		{"\ta\r", at(api.ErrUtf, 1)},
		{"a\n\t\x00\n\tb", at(api.ErrUtf, 2)},
		{"a\n\tb\n\t\x00", at(api.ErrTab, 2)},
		{"a\n# \xff\n\tb", at(api.ErrUtf, 2)},
	} {
		if l, f := rows.Read(c.s); len(l) != 0 || f != c.want {
			t.Errorf("Read(%q): %v, %v, not %v", c.s, l, f, c.want)
		}
	}
}

func TestReadShortTexts(t *testing.T) {
	short("a #\t\r\n\xc3\xa9", 6, func(s string) {
		got, f := rows.Read(s)
		want, fault := wantRead(s)
		if f != fault || !slices.Equal(got, want) {
			t.Fatalf("Read(%q): %v, %v, not %v, %v", s, got, f, want, fault)
		}
	})
}

func TestReadFaultHasALine(t *testing.T) {
	short("a\t\r\n\xff", 6, func(s string) {
		if _, f := rows.Read(s); !none(f) && (f.At < 1 || f.At > len(rows.Lines(s))) {
			t.Fatalf("Read(%q): %v", s, f)
		}
	})
}

// What is printable in a line is what layer 1 says, but for 10 and 13.
func TestReadAllSigns(t *testing.T) {
	for sign := range 0x110000 {
		s, e := utf.Encode(sign)
		if e != api.OK || sign == '\n' {
			continue
		}
		want := at(api.OK, 0)
		if sign == '\r' || !utf.Printable(sign) {
			want = at(api.ErrUtf, 2)
		}
		if _, f := rows.Read("a\nb" + s + "c\n"); f != want {
			t.Fatalf("%x: %v, not %v", sign, f, want)
		}
	}
}

// P2.2

func TestWrite(t *testing.T) {
	most := strings.Repeat(" ", 1<<16)
	for _, c := range []struct {
		l    []api.Row
		want string
	}{
		{nil, ""},
		{[]api.Row{}, ""},
		{[]api.Row{{}}, "\n"},
		{[]api.Row{row(0, "a:", 1), row(2, "b", 2)}, "a:\n  b\n"},
		{[]api.Row{row(3, "", 1), row(0, "# c", 2)}, "   \n# c\n"},
		// Numbers are not written: rows stand as they are handed in.
		{[]api.Row{row(1, "b", 9), row(0, "a", -4)}, " b\na\n"},
		// Texts are written as they are.
		{[]api.Row{row(1, " a ", 1), row(0, "b\r\nc\n", 1), row(0, "\t\xff", 1)}, "  a \nb\r\nc\n\n\t\xff\n"},
		{[]api.Row{row(-1, "a", 1), row(math.MinInt, "b", 1)}, "a\nb\n"},
		{[]api.Row{row(1<<16-1, "a", 1)}, most[1:] + "a\n"},
		{[]api.Row{row(1<<16, "a", 1)}, most + "a\n"},
		{[]api.Row{row(1<<16+1, "a", 1), row(0, "b", 1)}, most + "a\nb\n"},
		{[]api.Row{row(math.MaxInt, "a", 1)}, most + "a\n"},
	} {
		if got := rows.Write(c.l); got != c.want {
			t.Errorf("Write of %d rows: %d bytes, not %d", len(c.l), len(got), len(c.want))
		}
	}
}

func TestBelow(t *testing.T) {
	deep := read(t, "a:\n  b:\n    c\n\n  d\n# e\n\nf\n  g\n")
	for _, c := range []struct {
		l    []api.Row
		col  int
		want int
	}{
		{nil, 0, 0},
		{[]api.Row{}, -1, 0},
		{deep, 0, 0},
		{deep, -1, 9},
		{deep[1:], 0, 4},
		{deep[1:], 1, 4},
		{deep[1:], 2, 0},
		{deep[2:], 2, 1},
		{deep[2:], 3, 1},
		{deep[2:], 4, 0},
		{deep[3:], 0, 2},
		{deep[3:], 2, 0},
		{deep[5:], 0, 0},
		{deep[5:], -1, 4},
		{deep[8:], 1, 1},
		{deep[8:], math.MaxInt, 0},
		{deep, math.MinInt, 9},
		// Rows that are empty go with what stands behind them, whatever their column is.
		{read(t, "\n"), -1, 0},
		{read(t, "    \n    # c\n"), 0, 0},
		{read(t, "\n# c\n  a\n"), 0, 3},
		{read(t, "\n# c\na\n"), 0, 0},
		{read(t, "  a\n\n"), 0, 1},
		{read(t, "  a\n    # c\n    \n"), 0, 1},
		{read(t, "  a\n# c\n  b\n#\n"), 1, 3},
		{read(t, "  a\n# c\nb\n  d\n"), 1, 1},
		// A sign that is not a row's first one makes no note of it.
		{read(t, "  a#\n b#\n"), 0, 2},
		{[]api.Row{row(-5, "a", 1)}, -6, 1},
		{[]api.Row{row(-5, "a", 1)}, -5, 0},
		{[]api.Row{row(-5, "", 1), row(math.MaxInt, "a", 1)}, math.MaxInt - 1, 2},
	} {
		if got := rows.Below(c.l, c.col); got != c.want {
			t.Errorf("Below(%v, %d): %d, not %d", c.l, c.col, got, c.want)
		}
	}
}

// wantBelow is as the document says it: all that are empty or deeper, and then without the empty ones at the end.
func wantBelow(l []api.Row, col int) int {
	empty := func(r api.Row) bool { return r.Text == "" || strings.HasPrefix(r.Text, "#") }
	n := 0
	for n < len(l) && (empty(l[n]) || l[n].Col > col) {
		n++
	}
	for n > 0 && empty(l[n-1]) {
		n--
	}
	return n
}

func TestBelowOfShortTexts(t *testing.T) {
	short("a #\n", 8, func(s string) {
		l := read(t, s)
		for col := -1; col <= 3; col++ {
			if got, want := rows.Below(l, col), wantBelow(l, col); got != want {
				t.Fatalf("Below of %q, %d: %d, not %d", s, col, got, want)
			}
		}
	})
}

func TestNote(t *testing.T) {
	for _, c := range []struct{ s, want string }{
		{"", ""},
		{"a", "a"},
		{"#", ""},
		{"# a", ""},
		{"a # b", "a"},
		{"a\t# b", "a"},
		{"a \t \t# b", "a"},
		{"a #", "a"},
		{"a # b # c", "a"},
		{"a# b", "a# b"},
		{"a#b # c", "a#b"},
		{"a## b", "a## b"},
		{"a ## b", "a"},
		{"a\n# b", "a\n# b"},
		{"a\u00a0# b", "a\u00a0# b"},
		{" # a", ""},
		{"\t#", ""},
		// Without a note blanks at the end go, too; those ahead stay.
		{"a ", "a"},
		{"a \t\t ", "a"},
		{"  a b  ", "  a b"},
		{"\ta", "\ta"},
		{" ", ""},
		{"\t \t", ""},
		{"a\r ", "a\r"},
		{"a\n", "a\n"},
		// Quotes are nothing to it.
		{"'a # b'", "'a"},
		{"\xff # \xfe", "\xff"},
	} {
		if got := rows.Note(c.s); got != c.want {
			t.Errorf("Note(%q): %q, not %q", c.s, got, c.want)
		}
	}
}

func wantNote(s string) string {
	end := len(s)
	for _, mark := range []string{" #", "\t#"} {
		if i := strings.Index(s, mark); i >= 0 {
			end = min(end, i)
		}
	}
	if strings.HasPrefix(s, "#") {
		end = 0
	}
	return strings.TrimRight(s[:end], " \t")
}

func TestNoteOfShortTexts(t *testing.T) {
	short("a #\t\n", 7, func(s string) {
		got := rows.Note(s)
		if want := wantNote(s); got != want {
			t.Fatalf("Note(%q): %q, not %q", s, got, want)
		}
		if again := rows.Note(got); again != got {
			t.Fatalf("Note(%q): %q", got, again)
		}
	})
}

func TestSame(t *testing.T) {
	l := []api.Row{row(0, "a", 1), row(2, "b", 2)}
	for _, c := range []struct {
		a, b []api.Row
		want bool
	}{
		{nil, nil, true},
		{nil, []api.Row{}, true},
		{[]api.Row{}, nil, true},
		{nil, []api.Row{{}}, false},
		{l, l, true},
		{l, slices.Clone(l), true},
		{l, l[:1], false},
		{l[:1], l, false},
		{l, []api.Row{l[1], l[0]}, false},
		{l, []api.Row{row(0, "a", 1), row(3, "b", 2)}, false},
		{l, []api.Row{row(0, "a", 1), row(2, "c", 2)}, false},
		{l, []api.Row{row(0, "a", 1), row(2, "b", 3)}, false},
		{l, []api.Row{row(1, "a", 1), row(2, "b", 2)}, false},
		{l, append(slices.Clone(l), api.Row{}), false},
		// Empty rows are held against each other like all others.
		{[]api.Row{row(0, "", 1)}, []api.Row{row(1, "", 1)}, false},
		{[]api.Row{row(0, "# a", 1)}, []api.Row{row(0, "# b", 1)}, false},
	} {
		if got := rows.Same(c.a, c.b); got != c.want {
			t.Errorf("Same(%v, %v): %v", c.a, c.b, got)
		}
	}
}

// P2.3

func TestReadOfWritten(t *testing.T) {
	short("a #\t\r\n\u00e9", 6, func(s string) {
		l, f := rows.Read(s)
		if !none(f) {
			return
		}
		text := rows.Write(l)
		again, f := rows.Read(text)
		if !none(f) || !rows.Same(again, l) {
			t.Fatalf("%q, written as %q: %v, %v, not %v", s, text, again, f, l)
		}
		if twice := rows.Write(again); twice != text {
			t.Fatalf("%q, written as %q and then as %q", s, text, twice)
		}
	})
}

func TestReadOfWrittenAtTheLimit(t *testing.T) {
	for _, s := range []string{
		strings.Repeat("a", api.MaxText-1) + "\n",
		strings.Repeat(" ", api.MaxText-1) + "\n",
		strings.Repeat("\n", api.MaxText),
		strings.Repeat(" ", api.MaxText-2) + "a\n",
		strings.Repeat("a", api.MaxText-1),
	} {
		l := read(t, s)
		again, f := rows.Read(rows.Write(l))
		if !none(f) || !rows.Same(again, l) {
			t.Errorf("%d bytes, %q and so on: %v", len(s), s[:3], f)
		}
	}
}

// P2.4

// behind are rows as they are once so many lines stand ahead.
func behind(l []api.Row, lines int) []api.Row {
	moved := slices.Clone(l)
	for i := range moved {
		moved[i].At += lines
	}
	return moved
}

func TestTextsBehindOneAnother(t *testing.T) {
	var whole []string
	short("a #\t\n", 4, func(s string) {
		if s == "" || strings.HasSuffix(s, "\n") {
			if _, f := rows.Read(s); none(f) {
				whole = append(whole, s, strings.ReplaceAll(s, "\n", "\r\n"))
			}
		}
	})
	for _, a := range whole {
		first := read(t, a)
		for _, b := range whole {
			want := append(slices.Clone(first), behind(read(t, b), len(first))...)
			if got := read(t, a+b); !rows.Same(got, want) {
				t.Fatalf("%q and %q: %v, not %v", a, b, got, want)
			}
			if got, want := rows.Lines(a+b), append(rows.Lines(a), rows.Lines(b)...); !slices.Equal(got, want) {
				t.Fatalf("%q and %q: %q, not %q", a, b, got, want)
			}
		}
	}
}

func TestWrittenBehindOneAnother(t *testing.T) {
	a, b := read(t, "a:\n\n  b\n"), read(t, "   \n# c\nd")
	if got, want := rows.Write(append(slices.Clone(a), b...)), rows.Write(a)+rows.Write(b); got != want {
		t.Errorf("%q, not %q", got, want)
	}
}

// R4 and R6

func TestListsAreLeftAlone(t *testing.T) {
	l := read(t, "a:\n  b # c\n\n")
	kept := slices.Clone(l)
	rows.Write(l)
	rows.Below(l, 0)
	rows.Same(l, l)
	if !slices.Equal(l, kept) {
		t.Error(l)
	}
	// What one call answered is not what the next one answers from.
	l[0].Text, l[1].Col = "x", 7
	if again := read(t, "a:\n  b # c\n\n"); !slices.Equal(again, kept) {
		t.Error(again)
	}
	lines := rows.Lines("a\nb")
	lines[0] = "x"
	if again := rows.Lines("a\nb"); again[0] != "a" {
		t.Error(again)
	}
}
