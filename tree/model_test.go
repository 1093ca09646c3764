package tree_test

import (
	"math/rand"
	"regexp"
	"strings"

	"grommet/api"
	"grommet/block"
	"grommet/flow"
	"grommet/plain"
	"grommet/quote"
)

// The chapter's words a second time, as patterns; the numbers are the document's. A fault ends all of it by a panic.
var (
	itemRule     = regexp.MustCompile(`(?s)\A(-(?: +|\z))(.*)\z`)
	quotedRule   = regexp.MustCompile(`(?s)\A('(?:[^']|'')*'|"(?:[^"\\]|\\.)*") *:(?: +|\z)`)
	plainRule    = regexp.MustCompile(`(?s)\A(.*?) *:(?: +|\z)`)
	propertyRule = regexp.MustCompile(`\A(?:&([A-Za-z0-9_-]{1,32})|!!(null|bool|int|str|seq|map))(?: +|\z)`)
	styleRule    = regexp.MustCompile(`(?s)\A([|>])([-+]?)(?:[ \t]*\z|[ \t]+#)`)
	behindRule   = regexp.MustCompile(`\A *\z|\A +#`)
	tags         = map[string]int{"null": 1, "bool": 2, "int": 3, "str": 4, "seq": 5, "map": 6}
)

func wantItem(s string) (string, int, bool) {
	found := itemRule.FindStringSubmatch(s)
	if found == nil {
		return "", 0, false
	}
	return found[2], len(found[1]), true
}

func wantEntry(s string) (api.Tree, string, int, bool) {
	if found := quotedRule.FindStringSubmatch(s); found != nil {
		text, n, f := quote.Read(found[1])
		if f.Why != 0 || n != len(found[1]) {
			return api.Tree{}, "", 0, false
		}
		return api.Tree{Kind: 4, Text: text}, s[len(found[0]):], len(found[0]), true
	}
	found := plainRule.FindStringSubmatch(s)
	if found == nil || !plain.Is(found[1], false) {
		return api.Tree{}, "", 0, false
	}
	key := api.Tree{Kind: plain.Resolve(found[1]), Text: found[1]}
	if key.Kind == 1 {
		key.Text = ""
	}
	return key, s[len(found[0]):], len(found[0]), true
}

func wantParse(l []api.Row) (t api.Tree, f api.Fault) {
	defer func() {
		if got := recover(); got != nil {
			t, f = api.Tree{}, got.(api.Fault)
		}
	}()
	t = api.Tree{Kind: 1}
	if hasRows(l) {
		t = wantValue(l, nil, 0)
	}
	if !flow.Right(t) {
		panic(api.Fault{Why: 5})
	}
	return t, api.Fault{}
}

func fail(why api.Errno, row api.Row) {
	panic(api.Fault{Why: why, At: row.At})
}

func isEmptyRow(row api.Row) bool {
	return row.Text == "" || row.Text[0] == '#'
}

func hasRows(l []api.Row) bool {
	for _, row := range l {
		if !isEmptyRow(row) {
			return true
		}
	}
	return false
}

// wantValue is the value of rows, of which one is not empty; none lies below the row that they belong to, if that is told.
func wantValue(l []api.Row, above *api.Row, around int) api.Tree {
	for isEmptyRow(l[0]) {
		l = l[1:]
	}
	first := l[0]
	if above != nil && first.Col < above.Col {
		fail(9, first)
	}
	if around >= 64 {
		fail(10, first)
	}
	_, _, isItem := wantItem(first.Text)
	_, _, _, isEntry := wantEntry(first.Text)
	if !isItem && !isEntry {
		return wantMeaning(first, first.Text, l[1:], around)
	}
	t := api.Tree{Kind: 6}
	if isItem {
		t.Kind = 5
	}
	for _, group := range groups(l, first.Col) {
		row, under := group[0], group[1:]
		if row.Col < first.Col {
			fail(9, row)
		}
		if isItem {
			t.Kids = append(t.Kids, wantItemValue(row, under, around+1))
		} else {
			t.Kids = append(t.Kids, wantEntryValue(row, under, around+1)...)
		}
	}
	return t
}

// groups are rows, each of them a row that is not deeper than the column, and those behind it that are, or are empty.
func groups(l []api.Row, col int) [][]api.Row {
	var list [][]api.Row
	for _, row := range l {
		if !isEmptyRow(row) && row.Col <= col {
			list = append(list, nil)
		}
		list[len(list)-1] = append(list[len(list)-1], row)
	}
	return list
}

func wantItemValue(row api.Row, under []api.Row, around int) api.Tree {
	rest, n, ok := wantItem(row.Text)
	if !ok {
		fail(3, row)
	}
	_, _, isItem := wantItem(rest)
	_, _, _, isEntry := wantEntry(rest)
	if isItem || isEntry {
		inner := api.Row{Col: row.Col + n, Text: rest, At: row.At}
		return wantValue(append([]api.Row{inner}, under...), nil, around)
	}
	return wantMeaning(row, rest, under, around)
}

func wantEntryValue(row api.Row, under []api.Row, around int) []api.Tree {
	key, rest, _, ok := wantEntry(row.Text)
	if !ok {
		fail(3, row)
	}
	if len(key.Text) > 256 {
		fail(5, row)
	}
	return []api.Tree{key, wantMeaning(row, rest, under, around)}
}

func wantMeaning(row api.Row, rest string, under []api.Row, around int) api.Tree {
	left, anchor, tag := rest, "", ""
	for {
		found := propertyRule.FindStringSubmatch(left)
		if found == nil || found[1] != "" && anchor != "" || found[2] != "" && tag != "" {
			break
		}
		anchor, tag, left = anchor+found[1], tag+found[2], left[len(found[0]):]
	}
	var t api.Tree
	style := styleRule.FindStringSubmatch(left)
	switch {
	case left == "" || left[0] == '#':
		if hasRows(under) {
			return wantRowsWith(anchor, tag, row, wantValue(under, &row, around))
		}
		t = api.Tree{Kind: 1}
		if tag == "str" {
			t.Kind = 4
		}
	case style != nil:
		chomp := map[string]int{"": 0, "-": 1, "+": 2}[style[2]]
		text, n, f := block.Take(under, row.Col, block.Style{Folded: style[1] == ">", Chomp: chomp})
		if f.Why != 0 {
			panic(f)
		}
		t, under = api.Tree{Kind: 4, Text: text}, under[n:]
	default:
		value, n, f := flow.Read(rest, false)
		if f.Why != 0 {
			fail(f.Why, row)
		}
		if !behindRule.MatchString(rest[n:]) {
			fail(3, row)
		}
		t, anchor, tag = value, value.Anchor, ""
	}
	if tag != "" && tags[tag] != t.Kind {
		fail(12, row)
	}
	t.Anchor = anchor
	for _, more := range under {
		switch {
		case isEmptyRow(more):
		case more.Col < row.Col:
			fail(9, more)
		default:
			fail(3, more)
		}
	}
	return t
}

// wantRowsWith is the value of rows with the properties of the row ahead of them.
func wantRowsWith(anchor, tag string, row api.Row, t api.Tree) api.Tree {
	if anchor == "" && tag == "" {
		return t
	}
	if t.Kind == 7 || t.Anchor != "" || t.Kind < 5 && tag != "" {
		fail(3, row)
	}
	if tag != "" && tags[tag] != t.Kind {
		fail(12, row)
	}
	t.Anchor = anchor
	return t
}

// shortTexts hands on all texts of up to long of the parts.
func shortTexts(parts []string, long int, try func(string)) {
	shortLists(parts, long, func(list []string) { try(strings.Join(list, "")) })
}

// shortLists hands on all lists of up to long of the parts.
func shortLists[T any](parts []T, long int, try func([]T)) {
	var grow func([]T)
	grow = func(list []T) {
		try(list)
		if len(list) == long {
			return
		}
		for _, part := range parts {
			grow(append(list[:len(list):len(list)], part))
		}
	}
	grow(nil)
}

func one[T any](draw *rand.Rand, list ...T) T {
	return list[draw.Intn(len(list))]
}

// blanks are some, or none.
func blanks(draw *rand.Rand) string {
	return strings.Repeat(" ", max(0, draw.Intn(5)-2))
}

// drawnText is a row's: mostly one that may stand there.
func drawnText(draw *rand.Rand) string {
	var s strings.Builder
	for range draw.Intn(3) {
		s.WriteString(one(draw, "- ", "- ", "-  ", "-", "a: ", "b: ", "'c': ", `"d" : `, "5: ", "~: ", "&x ", "&y ", "!!seq ", "!!map ", "!!str ", "!!null ", "!!int "))
	}
	s.WriteString(one(draw, "", "", "", "a", "b c", "1", "~", "true", "'x'", `"y"`, "[a, b]", "{a: b}", "[]", "*x", "|", ">", "|-", ">+", "|+ # n", "&x", "!!str", "!!seq", "!!map", "!!null", "!!str |", "&y >", "# n", " # n", "a:", "b:", "-", "a #n", "'x' #n", "'x'#n", "[", "'", "!!int a", "!!int 5", "*x y", "a: b: c", "a:b", "\xff", "!!no", "&"))
	return strings.Trim(s.String(), " ")
}

// drawnRows lie deeper and less deep, as values' rows do, mostly.
func drawnRows(draw *rand.Rand) []api.Row {
	var list []api.Row
	cols := []int{draw.Intn(3)}
	for n := range draw.Intn(9) {
		switch turn := draw.Intn(8); {
		case turn < 3:
			cols = append(cols, cols[len(cols)-1]+1+draw.Intn(3))
		case turn < 5:
			cols = cols[:1+draw.Intn(len(cols))]
		}
		row := api.Row{Col: cols[len(cols)-1], Text: drawnText(draw), At: 3*n + 1}
		if draw.Intn(12) == 0 {
			row.Col = draw.Intn(9)
		}
		list = append(list, row)
	}
	return list
}

func drawnStr(draw *rand.Rand) string {
	if draw.Intn(3) == 0 {
		return one(draw, "", "~", "null", "true", "7", "007", "-", "---", "- a", "-a", "a:", "a: b", "a:b", "a #b", "# a", " a", "a ", "a, b", "[", "{}", "&a", "*a", "!!str", "'", `"`, "it's", "|", ">", "? a", "%")
	}
	if draw.Intn(2) == 0 {
		lines := []string{one(draw, "a", "- b", "c: d", "# e", "|")}
		for range draw.Intn(5) {
			lines = append(lines, one(draw, "a", "  b", "# c", " - d", "", "", "e:"))
		}
		return strings.Join(lines, "\n") + one(draw, "", "\n", "\n\n", "\n\n\n")
	}
	var s strings.Builder
	for range 1 + draw.Intn(6) {
		s.WriteString(one(draw, "a", "b", "word", "5", " ", ":", ",", "[", "#", "-", "'", `"`, `\`, "\t", "\n", "\x00", "\u00e9", "\U0001f600"))
	}
	return s.String()
}

func drawnName(draw *rand.Rand) string {
	return one(draw, "a", "b", "c-d", "_", "0", "null", strings.Repeat("n", 32))
}

func drawnScalar(draw *rand.Rand) api.Tree {
	switch draw.Intn(6) {
	case 0:
		return api.Tree{Kind: api.Null}
	case 1:
		return api.Tree{Kind: api.Bool, Text: one(draw, "true", "false")}
	case 2:
		return api.Tree{Kind: api.Int, Text: one(draw, "0", "7", "-5", "9223372036854775807")}
	}
	return api.Tree{Kind: api.Str, Text: drawnStr(draw)}
}

// drawnTree is one that may be.
func drawnTree(draw *rand.Rand, room int) api.Tree {
	var t api.Tree
	switch kind := draw.Intn(9); {
	case kind == 0:
		return api.Tree{Kind: api.Alias, Anchor: drawnName(draw)}
	case kind < 4 || room == 0:
		t = drawnScalar(draw)
	case kind < 6:
		t.Kind = api.Seq
		for range draw.Intn(4) {
			t.Kids = append(t.Kids, drawnTree(draw, room-1))
		}
	default:
		t.Kind = api.Map
		for range draw.Intn(4) {
			t.Kids = append(t.Kids, drawnScalar(draw), drawnTree(draw, room-1))
		}
	}
	if draw.Intn(4) == 0 {
		t.Anchor = drawnName(draw)
	}
	return t
}

// line is a row, and whether it is one of a block.
type line struct {
	api.Row
	held bool
}

// laid are rows of any form that mean a tree, the first of them at the column: what they are is known from the tree alone.
func laid(draw *rand.Rand, t api.Tree, col int) []line {
	bare := t
	bare.Anchor = ""
	isList := len(t.Kids) > 0
	switch {
	case isList && (t.Anchor != "" || draw.Intn(5) == 0):
		// Properties ahead of the value of rows that stand at the column, or deeper.
		words := propertiesOf(draw, t.Anchor, tagOf(draw, t))
		if words == "" {
			return laidList(draw, t, col)
		}
		head := line{Row: api.Row{Col: col, Text: words + noteOf(draw)}}
		return append([]line{head}, laidList(draw, bare, col+draw.Intn(3))...)
	case isList && draw.Intn(5) > 0:
		return laidList(draw, t, col)
	case t.Kind < 5 && t.Anchor != "" && draw.Intn(3) == 0:
		return append([]line{{Row: api.Row{Col: col, Text: "&" + t.Anchor}}}, laid(draw, bare, col+draw.Intn(3))...)
	}
	return laidRest(draw, "", col, t)
}

// laidList are the rows of a Seq or a Map that has Kids, one part behind the other.
func laidList(draw *rand.Rand, t api.Tree, col int) []line {
	var list []line
	for i := 0; i < len(t.Kids); i++ {
		begin := "-"
		if t.Kind == api.Map {
			begin = keyText(draw, t.Kids[i]) + ":"
			i++
		}
		list = append(list, laidRest(draw, begin, col, t.Kids[i])...)
	}
	return list
}

// laidRest are the rows of a value behind an item's or an entry's beginning, or behind none.
func laidRest(draw *rand.Rand, begin string, col int, t api.Tree) []line {
	head := line{Row: api.Row{Col: col, Text: begin}}
	ahead := begin
	if begin != "" {
		ahead += " " + blanks(draw)
	}
	if t.Kind == api.Str && draw.Intn(2) == 0 {
		if lines := laidBlock(draw, ahead, col, t); lines != nil {
			return lines
		}
	}
	if begin != "" && t.Kind == api.Null && draw.Intn(2) == 0 {
		head.Text = strings.TrimRight(ahead+propertiesOf(draw, t.Anchor, one(draw, "", "!!null")), " ") + noteOf(draw)
		return []line{head}
	}
	if begin == "-" && len(t.Kids) > 0 && t.Anchor == "" && draw.Intn(2) == 0 {
		inner := laidList(draw, t, col+len(ahead))
		inner[0].Text, inner[0].Col = ahead+inner[0].Text, col
		return inner
	}
	if begin != "" && draw.Intn(2) == 0 {
		return laidBelow(draw, head, ahead, t)
	}
	head.Text = ahead + flowText(draw, t) + noteOf(draw)
	return []line{head}
}

// laidBelow are a row with perhaps properties, and deeper ones of the value.
func laidBelow(draw *rand.Rand, head line, ahead string, t api.Tree) []line {
	words, bare := "", t
	if t.Kind != api.Alias && draw.Intn(2) == 0 {
		tag := ""
		if len(t.Kids) > 0 {
			tag = tagOf(draw, t)
		}
		words, bare.Anchor = propertiesOf(draw, t.Anchor, tag), ""
	}
	head.Text = strings.TrimRight(ahead+words, " ") + noteOf(draw)
	col := head.Col + 1 + draw.Intn(3)
	if words == "" {
		return append([]line{head}, laid(draw, t, col)...)
	}
	if len(bare.Kids) > 0 {
		return append([]line{head}, laidList(draw, bare, col)...)
	}
	return append([]line{head}, line{Row: api.Row{Col: col, Text: flowText(draw, bare) + noteOf(draw)}})
}

// laidBlock are a style and the lines of a text, deeper than the column; or nil, if layer 8 does not lay it.
func laidBlock(draw *rand.Rand, ahead string, col int, t api.Tree) []line {
	st, lines, ok := block.Lay(t.Text)
	if !ok {
		return nil
	}
	words := propertiesOf(draw, t.Anchor, one(draw, "", "!!str"))
	if words != "" {
		words += " " + blanks(draw)
	}
	list := []line{{Row: api.Row{Col: col, Text: ahead + words + block.Mark(st) + noteOf(draw)}}}
	deep := col + 1 + draw.Intn(3)
	for _, s := range lines {
		text := strings.TrimLeft(s, " ")
		row := api.Row{Col: deep + len(s) - len(text), Text: text}
		if text == "" {
			row.Col = draw.Intn(9)
		}
		list = append(list, line{Row: row, held: true})
	}
	return list
}

func tagOf(draw *rand.Rand, t api.Tree) string {
	return one(draw, "", "!!"+[...]string{"", "null", "bool", "int", "str", "seq", "map"}[t.Kind])
}

// propertiesOf are words in any order.
func propertiesOf(draw *rand.Rand, anchor, tag string) string {
	if anchor != "" {
		anchor = "&" + anchor
	}
	if draw.Intn(2) == 0 {
		anchor, tag = tag, anchor
	}
	if anchor == "" || tag == "" {
		return anchor + tag
	}
	return anchor + " " + blanks(draw) + tag
}

func noteOf(draw *rand.Rand) string {
	if draw.Intn(4) > 0 {
		return ""
	}
	return " " + blanks(draw) + one(draw, "#", "# a: b", "#x", "# '")
}

// flowText is a value's in one line, a scalar's in any form.
func flowText(draw *rand.Rand, t api.Tree) string {
	text, _ := flow.Write(t)
	if t.Kind != api.Str {
		return text
	}
	bare := t
	bare.Anchor = ""
	text = flow.Scalar(bare, false)
	if quoted, e := quote.Single(t.Text); e == api.OK && draw.Intn(3) == 0 {
		text = quoted
	}
	if t.Anchor != "" {
		text = "&" + t.Anchor + " " + text
	}
	return text
}

func keyText(draw *rand.Rand, key api.Tree) string {
	text := flow.Scalar(key, false)
	switch {
	case key.Kind == api.Null:
		text = one(draw, "~", "null")
	case key.Kind == api.Str && draw.Intn(2) == 0:
		if quoted, e := quote.Single(key.Text); e == api.OK {
			text = quoted
		}
	}
	return text + blanks(draw)
}

// numbered are lines as rows, by their numbers from 1 on.
func numbered(lines []line) []api.Row {
	var list []api.Row
	for i, l := range lines {
		l.At = i + 1
		list = append(list, l.Row)
	}
	return list
}

// strewn are lines with empty rows between, wherever no block is.
func strewn(draw *rand.Rand, lines []line) []line {
	var list []line
	for i, l := range lines {
		for !l.held && (i == 0 || !lines[i-1].held) && draw.Intn(3) == 0 {
			list = append(list, line{Row: api.Row{Col: draw.Intn(9), Text: one(draw, "", "#", "# a: b", "#- c")}})
		}
		list = append(list, l)
	}
	return list
}
