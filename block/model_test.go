package block_test

import (
	"math/rand"
	"regexp"
	"strings"
	"unicode/utf8"

	"grommet/api"
	"grommet/block"
)

// The chapter's words a second time; the numbers are the document's.

// wantMarks are all texts that tell a style.
var wantMarks = map[string]block.Style{
	"|":  {Folded: false, Chomp: 0},
	"|-": {Folded: false, Chomp: 1},
	"|+": {Folded: false, Chomp: 2},
	">":  {Folded: true, Chomp: 0},
	">-": {Folded: true, Chomp: 1},
	">+": {Folded: true, Chomp: 2},
}

// styles are all of them, in a fixed order.
var styles = []block.Style{
	{Folded: false, Chomp: 0}, {Folded: false, Chomp: 1}, {Folded: false, Chomp: 2},
	{Folded: true, Chomp: 0}, {Folded: true, Chomp: 1}, {Folded: true, Chomp: 2},
}

func column(row api.Row) int {
	if row.Col < 0 {
		return 0
	}
	return row.Col
}

// wantRows is how many rows the block has.
func wantRows(l []api.Row, col int) int {
	for i, row := range l {
		if row.Text != "" && column(row) <= col {
			return i
		}
	}
	return len(l)
}

// wantBase is -1, if there is none.
func wantBase(l []api.Row) int {
	for _, row := range l {
		if row.Text != "" {
			return column(row)
		}
	}
	return -1
}

func wantTake(l []api.Row, col int, st block.Style) (string, int, api.Fault) {
	l = l[:wantRows(l, col)]
	base := wantBase(l)
	for _, row := range l {
		if row.Text != "" && (column(row) < base || column(row)-base > 65536) {
			return "", 0, api.Fault{Why: 9, At: row.At}
		}
	}
	var lines []string
	last := 0 // how many lines stand up to the last one that is not empty
	for i, row := range l {
		line := row.Text
		if line != "" {
			line = strings.Repeat(" ", column(row)-base) + line
			last = i + 1
		}
		lines = append(lines, line)
	}
	text := wantLiteral(lines[:last])
	if st.Folded {
		text = wantFold(lines[:last])
	}
	if last > 0 && st.Chomp != 1 {
		text += "\n"
	}
	for i := last; i < len(lines) && st.Chomp == 2; i++ {
		text += "\n"
	}
	return text, len(l), api.Fault{}
}

func wantLiteral(lines []string) string {
	text := ""
	for i, line := range lines {
		if i > 0 {
			text += "\n"
		}
		text += line
	}
	return text
}

// wantFold asks of each line how it ends, by the next one that is not empty.
func wantFold(lines []string) string {
	text := ""
	for i, line := range lines {
		text += line
		if i == len(lines)-1 {
			break
		}
		next := i + 1
		for next < len(lines) && lines[next] == "" {
			next++
		}
		switch {
		case !isFair(line) || next == len(lines) || !isFair(lines[next]):
			text += "\n"
		case next == i+1:
			text += " "
		}
	}
	return text
}

func isFair(line string) bool {
	return line != "" && line[0] != ' '
}

var (
	endsWithBlank = regexp.MustCompile(`(?m) $`)
	beginsWithTab = regexp.MustCompile(`(?m)^ *\t`)
	beginsFair    = regexp.MustCompile(`\A\n*[^\n ]`)
	unprintable   = regexp.MustCompile(`[\x00-\x08\x0b-\x1f\x7f-\x{84}\x{86}-\x{9f}\x{feff}\x{fffe}\x{ffff}]`)
)

func wantLay(s string) (block.Style, []string, bool) {
	if !utf8.ValidString(s) || unprintable.MatchString(s) || endsWithBlank.MatchString(s) || beginsWithTab.MatchString(s) || !beginsFair.MatchString(s) {
		return block.Style{}, nil, false
	}
	ends := len(s) - len(strings.TrimRight(s, "\n"))
	lines := strings.Split(s, "\n")
	switch ends {
	case 0:
		return block.Style{Chomp: 1}, lines, true
	case 1:
		return block.Style{Chomp: 0}, lines[:len(lines)-1], true
	}
	return block.Style{Chomp: 2}, lines[:len(lines)-1], true
}

// shortTexts hands on all texts of up to long of the parts.
func shortTexts(parts []string, long int, try func(string)) {
	shortLists(parts, long, func(list []string) { try(strings.Join(list, "")) })
}

// shortLists hands on all lists of up to long of the parts.
func shortLists[T any](parts []T, long int, try func([]T)) {
	var grow func([]T)
	grow = func(list []T) {
		try(list)
		if len(list) == long {
			return
		}
		for _, part := range parts {
			grow(append(list[:len(list):len(list)], part))
		}
	}
	grow(nil)
}

func drawn[T any](draw *rand.Rand, list []T) T {
	return list[draw.Intn(len(list))]
}

// drawnText has lines as Lay takes them, mostly, and others.
func drawnText(draw *rand.Rand) string {
	fair := []string{"a", "b c", "# d", "- e: f", "\u00e9", "\u20ac\U0001f600", "a\tb", "|", "---", "\u0085", "a\t", "", ""}
	deep := []string{" a", "   b c", " # d", "  \u00e9", " -"}
	bad := []string{" ", "a ", "\t", " \tb", "\ta", "\x00", "a\r", "\xff", "\ufeff"}
	var lines []string
	for range draw.Intn(8) {
		switch n := draw.Intn(30); {
		case n == 0:
			lines = append(lines, drawn(draw, bad))
		case n < 8 && len(lines) > 0:
			lines = append(lines, drawn(draw, deep))
		default:
			lines = append(lines, drawn(draw, fair))
		}
	}
	return strings.Join(lines, "\n") + strings.Repeat("\n", draw.Intn(4))
}

// drawnLines are lines of any kind.
func drawnLines(draw *rand.Rand) []string {
	parts := []string{"", "", "a", "b c", " d", "  e f", " ", "\tg", "h ", "\n", "\xff", "\u20ac"}
	var lines []string
	for range draw.Intn(9) {
		lines = append(lines, drawn(draw, parts))
	}
	return lines
}

// drawnRows are rows of any kind, mostly about a column.
func drawnRows(draw *rand.Rand, col int) []api.Row {
	texts := []string{"", "", "a", "b c", "# d", " e", "\tf", "g ", "\n", "- h", "\u20ac", "\xff"}
	near := []int{0, 0, 0, 0, 0, 0, 1, 2, 1, 2, 5, -1}
	base := col + 1 + draw.Intn(3)
	var list []api.Row
	for n := range draw.Intn(9) {
		row := api.Row{Col: base + drawn(draw, near), Text: drawn(draw, texts), At: 10 * (n + 1)}
		switch draw.Intn(40) {
		case 0:
			row.Col = draw.Intn(9) - 4
		case 1:
			row.Col = base + 65535 + draw.Intn(4)
		}
		list = append(list, row)
	}
	return list
}
