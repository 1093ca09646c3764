package block_test

import (
	"math"
	"math/rand"
	"slices"
	"strings"
	"testing"

	"grommet/api"
	"grommet/block"
	"grommet/rows"
	"grommet/utf"
)

const (
	least = math.MinInt
	most  = math.MaxInt
)

var (
	clip       = block.Style{Chomp: block.Clip}
	strip      = block.Style{Chomp: block.Strip}
	keep       = block.Style{Chomp: block.Keep}
	foldClip   = block.Style{Folded: true, Chomp: block.Clip}
	foldStrip  = block.Style{Folded: true, Chomp: block.Strip}
	foldKeep   = block.Style{Folded: true, Chomp: block.Keep}
	otherChomp = []int{-1, 3, 4, 100, least, most}
)

func row(col int, text string, at int) api.Row { return api.Row{Col: col, Text: text, At: at} }

// rowsOf are lines as rows of one column, numbered from 1 on.
func rowsOf(col int, lines ...string) []api.Row {
	var list []api.Row
	for i, line := range lines {
		list = append(list, row(col, line, i+1))
	}
	return list
}

func checkTake(t *testing.T, l []api.Row, col int, st block.Style, want string, count int) {
	t.Helper()
	if text, n, f := block.Take(l, col, st); text != want || n != count || f != (api.Fault{}) {
		t.Fatalf("Take(%.999v, %d, %v): %.999q, %d, %v, not %.999q, %d", l, col, st, text, n, f, want, count)
	}
}

// checkTab asks that a block is refused in every style.
func checkTab(t *testing.T, l []api.Row, col, at int) {
	t.Helper()
	for _, st := range styles {
		if text, n, f := block.Take(l, col, st); text != "" || n != 0 || f != (api.Fault{Why: api.ErrTab, At: at}) {
			t.Fatalf("Take(%.999v, %d, %v): %d bytes, %d, %v, not {%v %d}", l, col, st, len(text), n, f, api.ErrTab, at)
		}
	}
}

// agreeTake holds Take against the words written a second time; it tells whether there is a fault.
func agreeTake(t *testing.T, l []api.Row, col int, st block.Style) bool {
	t.Helper()
	want, count, fault := wantTake(l, col, st)
	if text, n, f := block.Take(l, col, st); text != want || n != count || f != fault {
		t.Fatalf("Take(%.999v, %d, %v): %.999q, %d, %v, not %.999q, %d, %v", l, col, st, text, n, f, want, count, fault)
	}
	return fault.Why != api.OK
}

func checkFold(t *testing.T, want string, lines ...string) {
	t.Helper()
	if got := block.Fold(lines); got != want {
		t.Fatalf("Fold(%q): %.999q, not %.999q", lines, got, want)
	}
}

func checkLay(t *testing.T, s string, st block.Style, lines ...string) {
	t.Helper()
	if style, l, ok := block.Lay(s); style != st || !slices.Equal(l, lines) || !ok {
		t.Fatalf("Lay(%.999q): %v, %q, %v, not %v, %q", s, style, l, ok, st, lines)
	}
}

func checkNotLaid(t *testing.T, s string) {
	t.Helper()
	if style, l, ok := block.Lay(s); style != (block.Style{}) || len(l) != 0 || ok {
		t.Fatalf("Lay(%.999q): %v, %q, %v", s, style, l, ok)
	}
}

// agreeLay holds Lay against the words written a second time; it tells whether the text is laid.
func agreeLay(t *testing.T, s string) bool {
	t.Helper()
	style, lines, ok := wantLay(s)
	if ok {
		checkLay(t, s, style, lines...)
	} else {
		checkNotLaid(t, s)
	}
	return ok
}

// P8.1

func TestEnds(t *testing.T) {
	if block.Clip != 0 || block.Strip != 1 || block.Keep != 2 {
		t.Error(block.Clip, block.Strip, block.Keep)
	}
}

func TestHeadAndMarkOfEveryStyle(t *testing.T) {
	if len(wantMarks) != len(styles) {
		t.Fatal(len(wantMarks), len(styles))
	}
	for s, st := range wantMarks {
		if got, ok := block.Head(s); got != st || !ok {
			t.Errorf("Head(%q): %v, %v, not %v", s, got, ok, st)
		}
		if got := block.Mark(st); got != s {
			t.Errorf("Mark(%v): %q, not %q", st, got, s)
		}
	}
}

func TestHeadOfWhatTellsNone(t *testing.T) {
	try := func(s string) {
		t.Helper()
		if _, is := wantMarks[s]; is {
			return
		}
		if st, ok := block.Head(s); st != (block.Style{}) || ok {
			t.Errorf("Head(%q): %v, %v", s, st, ok)
		}
	}
	for _, s := range []string{"", "-", "+", "a", "|a", "||", "|>", ">>", ">|", "|--", "|-+", "|+-", "|++", ">-+", "|2", "|2-", ">1+", "| ", " |", "|- ", " >+", "| -", "|\n", "|-\n", "| # a", "|\x00", "\xff", "|\xff", "\u2502", "\uff5c", "\u2212", "|\u2212"} {
		try(s)
	}
	for n := range 256 {
		b := string([]byte{byte(n)})
		for s := range wantMarks {
			try(b)
			try(s + b)
			try(b + s)
		}
	}
	shortTexts([]string{"|", ">", "-", "+", " ", "1", "\n"}, 4, try)
}

func TestMarkOfAnotherChomp(t *testing.T) {
	for _, chomp := range otherChomp {
		if got := block.Mark(block.Style{Chomp: chomp}); got != "|" {
			t.Errorf("Mark of %d: %q", chomp, got)
		}
		if got := block.Mark(block.Style{Folded: true, Chomp: chomp}); got != ">" {
			t.Errorf("Mark of %d, folded: %q", chomp, got)
		}
	}
}

func TestFold(t *testing.T) {
	checkFold(t, "a b\nc", "a", "b", "", "c")
	checkFold(t, "")
	checkFold(t, "a", "a")
	checkFold(t, "a b", "a", "b")
	checkFold(t, "a b c", "a", "b", "c")
	checkFold(t, "a b c d", "a b", "c d")
}

func TestFoldEmptyLinesBetween(t *testing.T) {
	checkFold(t, "a\nb", "a", "", "b")
	checkFold(t, "a\n\nb", "a", "", "", "b")
	checkFold(t, "a\n\n\nb c", "a", "", "", "", "b", "c")
	checkFold(t, "a\nb\nc", "a", "", "b", "", "c")
}

func TestFoldLinesThatBeginWithABlank(t *testing.T) {
	checkFold(t, " a", " a")
	checkFold(t, " a\n b", " a", " b")
	checkFold(t, "a\n b", "a", " b")
	checkFold(t, " a\nb", " a", "b")
	checkFold(t, "a\n b\nc", "a", " b", "c")
	checkFold(t, "a b\n  c\n d\ne f", "a", "b", "  c", " d", "e", "f")
	checkFold(t, "a\n \nb", "a", " ", "b")
	// Only 32 is a blank.
	checkFold(t, "a \tb c", "a", "\tb", "c")
	checkFold(t, "a \t b \t c", "a", "\t b", "\t", "c")
	checkFold(t, "a \u00a0b \u3000c", "a", "\u00a0b", "\u3000c")
}

func TestFoldEmptyLinesBesideABlank(t *testing.T) {
	checkFold(t, "a\n\n b", "a", "", " b")
	checkFold(t, " a\n\nb", " a", "", "b")
	checkFold(t, " a\n\n b", " a", "", " b")
	checkFold(t, "a\n\n\n b\n\n\nc", "a", "", "", " b", "", "", "c")
	checkFold(t, "a b\n\n c\nd\ne", "a", "b", "", " c", "d", "", "e")
}

func TestFoldEmptyLinesAtTheBeginning(t *testing.T) {
	checkFold(t, "\na", "", "a")
	checkFold(t, "\n\na b", "", "", "a", "b")
	checkFold(t, "\n a", "", " a")
	checkFold(t, "\n\n a\nb", "", "", " a", "b")
}

func TestFoldTakesLinesAsTheyAre(t *testing.T) {
	checkFold(t, "", "")
	checkFold(t, "\n", "", "")
	checkFold(t, "\n\n", "", "", "")
	checkFold(t, "a\n", "a", "")
	checkFold(t, "a b\n\n", "a", "b", "", "")
	checkFold(t, " a\n", " a", "")
	checkFold(t, "a  b", "a ", "b")
	checkFold(t, "a\n b", "a\n", "b")
	checkFold(t, "\n a\n\r \xff \x00", "\n", "a\n\r", "\xff", "\x00")
}

func TestFoldShortLists(t *testing.T) {
	shortLists([]string{"", "a", "b c", " d", " "}, 7, func(lines []string) {
		checkFold(t, wantFold(lines), lines...)
	})
}

func TestFoldDrawn(t *testing.T) {
	draw := rand.New(rand.NewSource(81))
	for range 100000 {
		lines := drawnLines(draw)
		checkFold(t, wantFold(lines), lines...)
	}
}

// P8.2

func TestExamples(t *testing.T) {
	checkTake(t, []api.Row{row(2, "a", 2), row(3, "b", 3)}, 0, clip, "a\n b\n", 2)
	checkTake(t, []api.Row{row(2, "a", 2), row(2, "b", 3)}, 0, foldStrip, "a b", 2)
}

func TestTakeOrdinary(t *testing.T) {
	l := []api.Row{
		row(4, "first", 3), row(4, "second", 4), row(0, "", 5), row(4, "third", 6), row(6, "- deep", 7), row(5, "# deep", 8), row(4, "# last", 9), row(2, "", 10), row(2, "next: row", 11),
	}
	checkTake(t, l, 2, clip, "first\nsecond\n\nthird\n  - deep\n # deep\n# last\n", 8)
	checkTake(t, l, 2, strip, "first\nsecond\n\nthird\n  - deep\n # deep\n# last", 8)
	checkTake(t, l, 2, keep, "first\nsecond\n\nthird\n  - deep\n # deep\n# last\n\n", 8)
	checkTake(t, l, 2, foldClip, "first second\nthird\n  - deep\n # deep\n# last\n", 8)
	checkTake(t, l, 2, foldStrip, "first second\nthird\n  - deep\n # deep\n# last", 8)
	checkTake(t, l, 2, foldKeep, "first second\nthird\n  - deep\n # deep\n# last\n\n", 8)
}

func TestTakeOfTheRowsOfAText(t *testing.T) {
	l, f := rows.Read("a: >+\n  b\n  c\n\n    d\n\n  e\n  # f  \n\n   \ng: h\n")
	if f != (api.Fault{}) {
		t.Fatal(f)
	}
	checkTake(t, l[1:], l[0].Col, foldKeep, "b c\n\n  d\n\ne # f\n\n\n", 9)
}

func TestTakeOfNoRows(t *testing.T) {
	for _, st := range styles {
		for _, col := range []int{least, -1, 0, 1, most} {
			checkTake(t, nil, col, st, "", 0)
			checkTake(t, []api.Row{}, col, st, "", 0)
		}
		// None of these lies deeper.
		checkTake(t, rowsOf(2, "a", "b"), 2, st, "", 0)
		checkTake(t, rowsOf(1, "a", "b"), 2, st, "", 0)
		checkTake(t, rowsOf(0, "# a"), 0, st, "", 0)
		checkTake(t, []api.Row{row(2, "a", 1), row(9, "b", 2)}, 2, st, "", 0)
		checkTake(t, rowsOf(most, "a"), most, st, "", 0)
	}
}

func TestTakeOfRowsWithoutAText(t *testing.T) {
	for count := 1; count < 5; count++ {
		for _, ofCol := range []int{least, -1, 0, 1, 2, 3, most} {
			var l []api.Row
			for n := range count {
				l = append(l, row(ofCol, "", n+1))
			}
			// Whatever their column is, they belong to the block; one with a Text that is not deeper ends it.
			for _, behind := range [][]api.Row{nil, {row(2, "z", 9)}, {row(0, "# z", 9), row(0, "", 10)}} {
				all := slices.Concat(l, behind)
				checkTake(t, all, 2, strip, "", count)
				checkTake(t, all, 2, clip, "", count)
				checkTake(t, all, 2, keep, strings.Repeat("\n", count), count)
				checkTake(t, all, 2, foldStrip, "", count)
				checkTake(t, all, 2, foldClip, "", count)
				checkTake(t, all, 2, foldKeep, strings.Repeat("\n", count), count)
			}
		}
	}
}

func TestTakeEnds(t *testing.T) {
	for count := range 4 {
		l := rowsOf(3, "a", "b", "", "c")
		for n := range count {
			l = append(l, row(n, "", n+5))
		}
		for _, behind := range [][]api.Row{nil, {row(2, "z", 9)}, {row(1, "z", 9), row(3, "y", 10)}} {
			all := slices.Concat(l, behind)
			checkTake(t, all, 2, strip, "a\nb\n\nc", len(l))
			checkTake(t, all, 2, clip, "a\nb\n\nc\n", len(l))
			checkTake(t, all, 2, keep, "a\nb\n\nc\n"+strings.Repeat("\n", count), len(l))
			checkTake(t, all, 2, foldStrip, "a b\nc", len(l))
			checkTake(t, all, 2, foldClip, "a b\nc\n", len(l))
			checkTake(t, all, 2, foldKeep, "a b\nc\n"+strings.Repeat("\n", count), len(l))
		}
	}
}

func TestTakeEndsBehindALineThatBeginsWithABlank(t *testing.T) {
	l := []api.Row{row(1, "a", 1), row(2, "b", 2), row(0, "", 3), row(0, "", 4)}
	checkTake(t, l, 0, foldStrip, "a\n b", 4)
	checkTake(t, l, 0, foldClip, "a\n b\n", 4)
	checkTake(t, l, 0, foldKeep, "a\n b\n\n\n", 4)
}

func TestTakeBeginsWithEmptyLines(t *testing.T) {
	l := []api.Row{row(0, "", 1), row(9, "", 2), row(4, "a", 3), row(4, "b", 4)}
	checkTake(t, l, 2, clip, "\n\na\nb\n", 4)
	checkTake(t, l, 2, foldKeep, "\n\na b\n", 4)
	checkTake(t, l, 2, foldStrip, "\n\na b", 4)
}

func TestTakeOfAnotherChomp(t *testing.T) {
	for _, chomp := range otherChomp {
		for _, folded := range []bool{false, true} {
			st := block.Style{Folded: folded, Chomp: chomp}
			checkTake(t, rowsOf(1, "a", "", ""), 0, st, "a\n", 3)
			checkTake(t, rowsOf(1, "", ""), 0, st, "", 2)
		}
	}
}

func TestTakeColsBelowZero(t *testing.T) {
	for _, low := range []int{least, -65537, -2, -1} {
		for _, st := range []block.Style{clip, foldClip} {
			// They count as 0, which a column of 0 is not below.
			checkTake(t, rowsOf(low, "a"), 0, st, "", 0)
			checkTake(t, []api.Row{row(1, "a", 1), row(low, "b", 2)}, 0, st, "a\n", 1)
			checkTake(t, []api.Row{row(low, "a", 1), row(2, "b", 2), row(0, "c", 3), row(-1, "d", 4), row(low, "", 5)}, -1, clip, "a\n  b\nc\nd\n", 5)
			checkTake(t, []api.Row{row(low, "a", 1), row(65536, "b", 2)}, -1, st, "a\n"+strings.Repeat(" ", 65536)+"b\n", 2)
		}
		checkTab(t, []api.Row{row(low, "a", 1), row(65537, "b", 2)}, -1, 2)
		checkTab(t, []api.Row{row(1, "a", 1), row(low, "b", 2)}, -1, 2)
	}
}

func TestTakeColumnsBelowZero(t *testing.T) {
	for _, col := range []int{least, -65537, -2, -1} {
		checkTake(t, rowsOf(0, "a", "b"), col, clip, "a\nb\n", 2)
		checkTake(t, rowsOf(col, "a", "b"), col, foldClip, "a b\n", 2)
		checkTake(t, []api.Row{row(0, "a", 1), row(1, "b", 2), row(least, "c", 3)}, col, strip, "a\n b\nc", 3)
		checkTab(t, []api.Row{row(3, "a", 1), row(0, "b", 2)}, col, 2)
	}
}

func TestTakeBelowTheBase(t *testing.T) {
	for _, c := range []struct {
		l  []api.Row
		at int
	}{
		{[]api.Row{row(4, "a", 7), row(3, "b", 8)}, 8},
		{[]api.Row{row(4, "a", 7), row(1, "b", 8)}, 8},
		{[]api.Row{row(4, "a", 7), row(4, "b", 8), row(5, "c", 9), row(3, "# d", 10), row(4, "e", 11)}, 10},
		{[]api.Row{row(0, "", 1), row(9, "", 2), row(4, "a", 3), row(2, "", 4), row(2, "b", 5)}, 5},
		// The first of several is told, by the rows' order and not by their numbers.
		{[]api.Row{row(4, "a", 9), row(3, "b", 8), row(2, "c", 7)}, 8},
		{[]api.Row{row(4, "a", 9), row(2, "b", 8), row(3, "c", 7)}, 8},
		{[]api.Row{row(4, "a", 1), row(3, "b", 2), row(0, "c", 3), row(3, "d", 4)}, 2},
		// The number is the row's own.
		{[]api.Row{row(4, "a", 0), row(3, "b", 0)}, 0},
		{[]api.Row{row(4, "a", 1), row(3, "b", -5)}, -5},
		{[]api.Row{row(4, "a", 1), row(3, "b", most)}, most},
		{[]api.Row{row(most, "a", 1), row(most-1, "b", 2)}, 2},
	} {
		checkTab(t, c.l, 0, c.at)
	}
	for _, st := range styles {
		// Without a Text, or behind the block, no row is asked.
		checkTake(t, []api.Row{row(4, "a", 1), row(3, "", 2), row(0, "", 3)}, 0, st, take(t, rowsOf(4, "a", "", ""), 0, st), 3)
		checkTake(t, []api.Row{row(4, "a", 1), row(2, "b", 2), row(3, "c", 3)}, 2, st, take(t, rowsOf(4, "a"), 2, st), 1)
	}
}

// take is the text of a block that has no fault.
func take(t *testing.T, l []api.Row, col int, st block.Style) string {
	t.Helper()
	text, _, f := block.Take(l, col, st)
	if f != (api.Fault{}) {
		t.Fatalf("Take(%.999v, %d, %v): %v", l, col, st, f)
	}
	return text
}

func TestTakeFarAboveTheBase(t *testing.T) {
	const far = 1 << 16
	for _, base := range []int{1, 2, 100, far, most - far - 1} {
		l := []api.Row{row(base, "a", 4), row(base+far, "b", 5), row(base, "c", 6)}
		checkTake(t, l, 0, clip, "a\n"+strings.Repeat(" ", far)+"b\nc\n", 3)
		checkTake(t, l, 0, foldClip, "a\n"+strings.Repeat(" ", far)+"b\nc\n", 3)
		l[1].Col++
		checkTab(t, l, 0, 5)
		l[1].Col = most
		checkTab(t, l, 0, 5)
		// Without a Text it is an empty line like any other.
		l[1].Text = ""
		checkTake(t, l, 0, clip, "a\n\nc\n", 3)
	}
	checkTab(t, []api.Row{row(1, "a", 1), row(most, "b", 2)}, 0, 2)
	checkTab(t, []api.Row{row(0, "a", 1), row(most, "b", 2)}, least, 2)
	// How deep the base lies itself is not asked.
	checkTake(t, rowsOf(most, "a", "b"), 0, clip, "a\nb\n", 2)
	checkTake(t, rowsOf(most, "a", "b"), most-1, foldClip, "a b\n", 2)
	checkTake(t, rowsOf(most, "a", "b"), least, foldClip, "a b\n", 2)
}

func TestTakeTellsTheFirstOfTwoFaults(t *testing.T) {
	below, far := row(2, "b", 7), row(4+65537, "c", 8)
	checkTab(t, []api.Row{row(4, "a", 1), below, far}, 0, 7)
	checkTab(t, []api.Row{row(4, "a", 1), far, below}, 0, 8)
	checkTab(t, []api.Row{row(4, "a", 1), row(4, "a", 2), far, row(0, "", 3), below, row(0, "d", 4)}, 0, 8)
	// Behind the block there is none.
	for _, st := range styles {
		checkTake(t, []api.Row{row(4, "a", 1), row(0, "z", 2), below, far}, 0, st, take(t, rowsOf(4, "a"), 0, st), 1)
	}
}

func TestTakeTextsAsTheyAre(t *testing.T) {
	l := []api.Row{row(1, " a", 1), row(1, "b ", 2), row(2, "\tc", 3), row(1, "\xff\n", 4), row(1, " ", 5)}
	checkTake(t, l, 0, clip, " a\nb \n \tc\n\xff\n\n \n", 5)
	checkTake(t, l, 0, foldStrip, " a\nb \n \tc\n\xff\n\n ", 5)
}

func TestTakeShortLists(t *testing.T) {
	var parts []api.Row
	for _, col := range []int{-1, 0, 1, 2, 3} {
		for _, text := range []string{"", "a", " b"} {
			parts = append(parts, row(col, text, 0))
		}
	}
	shortLists(parts, 4, func(l []api.Row) {
		for i := range l {
			l[i].At = i + 1
		}
		for col := -2; col < 3; col++ {
			for _, st := range styles {
				agreeTake(t, l, col, st)
			}
		}
	})
}

func TestTakeDrawn(t *testing.T) {
	draw := rand.New(rand.NewSource(82))
	faults := 0
	for range 200000 {
		col := draw.Intn(5) - 2
		if agreeTake(t, drawnRows(draw, col), col, drawn(draw, styles)) {
			faults++
		}
	}
	if faults < 20000 || faults > 150000 {
		t.Errorf("%d of them have a fault", faults)
	}
}

// P8.3

func TestLay(t *testing.T) {
	checkLay(t, "a", strip, "a")
	checkLay(t, "a\n", clip, "a")
	checkLay(t, "a\n\n", keep, "a", "")
	checkLay(t, "a\n\n\n", keep, "a", "", "")
	checkLay(t, "a\nb", strip, "a", "b")
	checkLay(t, "a\n b\n", clip, "a", " b")
	checkLay(t, "a\n\n  b\n\n\nc", strip, "a", "", "  b", "", "", "c")
	checkLay(t, "a\n\n  b\n\n\nc\n", clip, "a", "", "  b", "", "", "c")
	checkLay(t, "a\n\n  b\n\n\nc\n\n", keep, "a", "", "  b", "", "", "c", "")
	checkLay(t, "\na", strip, "", "a")
	checkLay(t, "\n\na\n", clip, "", "", "a")
	checkLay(t, "\n\na\n\n", keep, "", "", "a", "")
	checkLay(t, "# a\n- b: c\n---\n...\n", clip, "# a", "- b: c", "---", "...")
	checkLay(t, "\u00e9\n\u20ac\U0001f600", strip, "\u00e9", "\u20ac\U0001f600")
	// Only 10 ends a line, and only 32 is a blank.
	checkLay(t, "a\u0085\u2028\u2029b\n\u00a0c\u00a0\n", clip, "a\u0085\u2028\u2029b", "\u00a0c\u00a0")
	checkLay(t, "\u00a0\n", clip, "\u00a0")
	checkLay(t, "a\t\nb\tc\n d\t\n", clip, "a\t", "b\tc", " d\t")
}

func TestLayOfEmptyLinesAlone(t *testing.T) {
	for n := range 6 {
		checkNotLaid(t, strings.Repeat("\n", n))
	}
}

func TestLayOfWhatIsNotPrintable(t *testing.T) {
	for _, bad := range []string{"\x00", "\x01", "\x08", "\x0b", "\x0c", "\x0e", "\x1b", "\x1f", "\x7f", "\u0080", "\u0084", "\u0086", "\u009f", "\ufeff", "\ufffe", "\uffff", "\x80", "\xff", "\xc3", "\xe2\x82", "\xc0\x80", "\xed\xa0\x80", "\xf4\x90\x80\x80"} {
		for _, s := range []string{bad, bad + "\n", "a" + bad, "a\n" + bad + "\n", "a\n\n b" + bad + "c\n\n", bad + "a"} {
			checkNotLaid(t, s)
		}
	}
}

func TestLayOfTheByte13(t *testing.T) {
	for _, s := range []string{"\r", "\r\n", "a\r", "a\r\n", "a\rb", "\ra", "a\n\rb", "a\r\nb\r\n", "a\n\r\n", "a\r\r\n", "a\n\r"} {
		checkNotLaid(t, s)
	}
}

func TestLayOfLinesThatEndWithABlank(t *testing.T) {
	for _, s := range []string{" ", "  ", "a ", "a \n", "a\nb ", "a\nb \n", "a \nb\n", "a\n \nb\n", "a\n  \n", "a\n ", "a\n\n ", "a\n\n \n", " \na", "\n \na", "a\t ", "a\u00a0 "} {
		checkNotLaid(t, s)
	}
}

func TestLayOfLinesThatBeginWithATab(t *testing.T) {
	for _, s := range []string{"\t", "\ta", "\ta\n", "a\n\tb", "a\n \tb", "a\n   \tb\n", "a\n\t\n", "a\n \t\n", "\n\ta", "a\n\t", "a\n\n \t", " \ta", "a\n\t\tb\n\n", "\t\na"} {
		checkNotLaid(t, s)
	}
}

func TestLayOfAFirstLineThatBeginsWithABlank(t *testing.T) {
	for _, s := range []string{" a", " a\n", "  a\nb\n", " a\n b\n", "\n a", "\n\n a\nb", " a\n\n"} {
		checkNotLaid(t, s)
	}
}

func TestLayEverySign(t *testing.T) {
	for sign := range 0x110000 {
		s, e := utf.Encode(sign)
		if e != api.OK {
			continue
		}
		agreeLay(t, "a"+s+"b\n")
		// Where a sign stands matters only of some of one byte.
		if sign < 0x100 {
			agreeLay(t, s)
			agreeLay(t, s+"\n\n")
			agreeLay(t, "a\n "+s)
			agreeLay(t, "a\n "+s+"\nb")
		}
		if t.Failed() {
			t.Fatalf("at the sign %#x", sign)
		}
	}
}

func TestLayShortTexts(t *testing.T) {
	shortTexts([]string{"a", " ", "\n", "\t", "\r", "\xff"}, 7, func(s string) { agreeLay(t, s) })
	shortTexts([]string{"a", " ", "\n"}, 11, func(s string) { agreeLay(t, s) })
}

func TestLayDrawn(t *testing.T) {
	draw := rand.New(rand.NewSource(83))
	laid := 0
	for range 200000 {
		if agreeLay(t, drawnText(draw)) {
			laid++
		}
	}
	if laid < 50000 || laid > 180000 {
		t.Errorf("%d of them are laid", laid)
	}
}

// P8.4 and P8.5

// enders end a block that lies deeper than a column that is not below 0, whatever stands behind them.
func enders(col int) [][]api.Row {
	return [][]api.Row{
		nil,
		{row(col, "z", 1)},
		{row(0, "# z", 1)},
		{row(-1, "z", 1), row(col+1, "y", 2), row(0, "", 3)},
		{row(col, "- z", 1), row(col+1, "y", 2), row(col+99999, "x", 3)},
		{row(col, "z", 1), row(0, "", 2), row(0, "", 3)},
		{row(col, "\xff", 1), row(col+3, "\t", 2), row(col+2, " ", 3)},
	}
}

// takenAgain asks that what is laid is taken at a column, whatever stands behind; it tells whether the text is laid.
func takenAgain(t *testing.T, s string, col, deeper int, behind []api.Row) bool {
	t.Helper()
	st, lines, ok := block.Lay(s)
	if !ok {
		return false
	}
	l := rowsOf(col+deeper, lines...)
	checkTake(t, slices.Concat(l, behind), col, st, s, len(l))
	return true
}

// readAgain asks so of what is laid, written and read; empty lines stand at the column 0, or at the others'.
func readAgain(t *testing.T, s string, col, deeper int, behind string) {
	t.Helper()
	st, lines, ok := block.Lay(s)
	if !ok {
		return
	}
	for _, ofEmpty := range []int{0, col + deeper} {
		l := rowsOf(col+deeper, lines...)
		for i := range l {
			if l[i].Text == "" {
				l[i].Col = ofEmpty
			}
		}
		back, f := rows.Read(rows.Write(l) + behind)
		if f != (api.Fault{}) {
			t.Fatalf("%q is laid as %v, which is not read: %v", s, l, f)
		}
		checkTake(t, back, col, st, s, len(l))
	}
}

var laidTexts = []string{
	"a", "a\n", "a\n\n", "a\n\n\n\n", "a\nb", "a\n b\n", "a\n\n b\nc\n\n", "\na", "\n\na\n\n", "# a\n", "- a: b\n", "| \u20ac", "a\n" + strings.Repeat(" ", 70000) + "b\n", "a\tb\t\n",
}

func TestWhatIsLaidIsTaken(t *testing.T) {
	for _, s := range laidTexts {
		for _, col := range []int{0, 1, 2, 63, 65536, 1 << 40, most - 200000} {
			for _, deeper := range []int{1, 2, 3, 99999} {
				for _, behind := range enders(col) {
					if !takenAgain(t, s, col, deeper, behind) {
						t.Errorf("%.99q is not laid", s)
					}
				}
			}
		}
		for _, col := range []int{least, -65537, -3, -2, -1} {
			for _, deeper := range []int{1, 2, 3, 99999} {
				takenAgain(t, s, col, deeper, nil)
			}
			takenAgain(t, s, col, -(col + 1), nil)
		}
		takenAgain(t, s, most-1, 1, []api.Row{row(most-1, "z", 1), row(most, "y", 2)})
	}
}

func TestShortTextsThatAreLaidAreTaken(t *testing.T) {
	shortTexts([]string{"a", "#", " ", "\n", "\t"}, 7, func(s string) {
		takenAgain(t, s, 2, 1, nil)
		takenAgain(t, s, -1, 2, nil)
		takenAgain(t, s, 0, 4, []api.Row{row(0, "z", 9), row(4, "y", 10)})
	})
	shortTexts([]string{"a", "#", " ", "\n", "\t"}, 6, func(s string) {
		readAgain(t, s, 0, 2, "")
		readAgain(t, s, 2, 1, "  z\n   y\n")
		readAgain(t, s, -1, 1, "")
	})
}

func TestDrawnTextsThatAreLaidAreTaken(t *testing.T) {
	draw := rand.New(rand.NewSource(84))
	laid := 0
	for range 100000 {
		s := drawnText(draw)
		col, deeper := draw.Intn(9), 1+draw.Intn(5)
		behind := slices.Concat(drawn(draw, enders(col)[1:]), drawnRows(draw, col))
		if takenAgain(t, s, col, deeper, behind) {
			laid++
		}
		takenAgain(t, s, col-20, deeper, nil)
		readAgain(t, s, col, deeper, rows.Write([]api.Row{row(draw.Intn(col+1), "z", 1), row(col+2, "y", 2)}))
	}
	if laid < 30000 {
		t.Errorf("only %d of them are laid", laid)
	}
}

// aloneAsBefore asks that a block is the same by itself, and with anything behind that ends it; it tells whether the block has rows.
func aloneAsBefore(t *testing.T, l []api.Row, col int, st block.Style, behind []api.Row) bool {
	t.Helper()
	text, n, f := block.Take(l, col, st)
	if f != (api.Fault{}) {
		return false
	}
	own := l[:n:n]
	checkTake(t, own, col, st, text, n)
	if col >= 0 {
		for _, end := range enders(col)[1:] {
			checkTake(t, slices.Concat(own, end, behind), col, st, text, n)
		}
	}
	return n > 0
}

func TestBehindABlockNothingTurnsIt(t *testing.T) {
	behinds := [][]api.Row{nil, rowsOf(0, "", ""), rowsOf(3, "a", "", "b"), rowsOf(most, "a"), rowsOf(least, "a", ""), {row(70000, "a", 1), row(3, "b", 2)}}
	for _, l := range [][]api.Row{
		nil, rowsOf(3, "a"), rowsOf(3, "a", "b", ""), rowsOf(3, "", ""), rowsOf(3, "", "a", "", ""), {row(3, "a", 1), row(4, "b", 2), row(0, "", 3)},
	} {
		for _, st := range styles {
			for col := range 3 {
				for _, behind := range behinds {
					aloneAsBefore(t, l, col, st, behind)
				}
			}
		}
	}
}

func TestBehindDrawnBlocksNothingTurnsThem(t *testing.T) {
	draw := rand.New(rand.NewSource(85))
	count := 0
	for range 50000 {
		col := draw.Intn(5) - 1
		if aloneAsBefore(t, drawnRows(draw, col), col, drawn(draw, styles), drawnRows(draw, col)) {
			count++
		}
	}
	if count < 10000 {
		t.Errorf("only %d of them have rows", count)
	}
}

func TestFaultsHangOnTheBlockAlone(t *testing.T) {
	l := []api.Row{row(4, "a", 1), row(3, "b", 2)}
	for _, behind := range enders(2) {
		checkTab(t, slices.Concat(l, behind), 2, 2)
	}
}

// R4

func TestArgumentsStayAsTheyWere(t *testing.T) {
	l := []api.Row{row(-3, "", 1), row(4, "a", 2), row(6, "b", 3), row(4, "", 4), row(-1, "", 5), row(0, "z", 6)}
	before := slices.Clone(l)
	for _, st := range styles {
		block.Take(l, 2, st)
		block.Take(l, -1, st)
	}
	if !rows.Same(l, before) {
		t.Error(l)
	}
	lines := []string{"", "a", "b", "", " c", ""}
	own := slices.Clone(lines)
	block.Fold(lines)
	if !slices.Equal(lines, own) {
		t.Errorf("%q", lines)
	}
}

func TestAnswersAreTheCallers(t *testing.T) {
	_, lines, _ := block.Lay("a\nb\n\n")
	lines[0] = "z"
	_ = append(lines[:1], "y", "x")
	checkLay(t, "a\nb\n\n", keep, "a", "b", "")
}

func TestKnowsNoLimit(t *testing.T) {
	long := strings.Repeat("it is so\n\n  \u20ac\n", 1<<15)
	st, lines, ok := block.Lay(long)
	if !ok || st != clip || len(lines) != 3<<15 {
		t.Fatal(st, len(lines), ok)
	}
	if text := take(t, rowsOf(3, lines...), 2, st); text != long {
		t.Error(len(text))
	}
	if text := block.Fold(lines); text != wantFoldLong(1<<15) {
		t.Error(len(text))
	}
}

// wantFoldLong is what the lines of TestKnowsNoLimit are folded to: none of them is beside another one that does not begin with a blank.
func wantFoldLong(count int) string {
	return strings.TrimSuffix(strings.Repeat("it is so\n\n  \u20ac\n", count), "\n")
}
