package emit

import (
	"strings"

	"grommet/api"
	"grommet/block"
	"grommet/flow"
)

// What rows begin with, and what stands behind.
const (
	itemBegin   = "- "
	keyEnd      = ":"
	blank       = " "
	anchorBegin = "&"
	aliasBegin  = "*"
	emptySeq    = "[]"
	emptyMap    = "{}"
)

// deeper is how many columns deeper what belongs to a row stands.
const deeper = 2

// feed is what a long scalar's text has.
const feed = "\n"

// writer makes the rows of a tree that may be.
type writer struct {
	rows []api.Row
}

// rowsOf are the rows of a tree that may be, at the column 0.
func rowsOf(t api.Tree) []api.Row {
	w := new(writer)
	put := w.rowsAt(0)
	w.value(t, 0, "", put, func() { w.list(t, 0, put) })
	return w.rows
}

// rowsAt puts each text in a row of its own, at a column.
func (w *writer) rowsAt(col int) func(text string) {
	return func(text string) {
		w.rows = append(w.rows, api.Row{Col: col, Text: text, At: len(w.rows) + 1})
	}
}

// behind puts the first text behind a beginning, and all others as rows of their own.
func behind(begin string, put, next func(text string)) func(text string) {
	return func(text string) {
		put(begin + text)
		// Just the first one stands there.
		begin, put = "", next
	}
}

// value puts the rows of a value at a column, the first one behind a beginning; how the rows of a list without an Anchor go on hangs on what that is, and so is told by a function.
func (w *writer) value(t api.Tree, col int, begin string, put func(text string), goOn func()) {
	st, lines, isLong := layLong(t)
	switch {
	case isLong:
		put(begin + anchorOf(t) + block.Mark(st))
		w.lines(lines, col+deeper)
	case len(t.Kids) == 0:
		put(begin + anchorOf(t) + shortText(t))
	case t.Anchor == "":
		goOn()
	default:
		put(begin + anchorBegin + t.Anchor)
		if begin != "" {
			col += deeper
		}
		w.list(t, col, w.rowsAt(col))
	}
}

// list puts the rows of a Seq's or a Map's Kids.
func (w *writer) list(t api.Tree, col int, put func(text string)) {
	if t.Kind == api.Seq {
		for _, kid := range t.Kids {
			w.item(kid, col, put)
		}
		return
	}
	for i := 0; i < len(t.Kids); i += 2 {
		w.entry(t.Kids[i], t.Kids[i+1], col, put)
	}
}

// item puts the rows of a Seq's Kid: those of a list in it begin in its own row.
func (w *writer) item(t api.Tree, col int, put func(text string)) {
	w.value(t, col, itemBegin, put, func() {
		w.list(t, col+deeper, behind(itemBegin, put, w.rowsAt(col+deeper)))
	})
}

// entry puts the rows of a Map's key and its value: those of a list stand all below the key.
func (w *writer) entry(key, t api.Tree, col int, put func(text string)) {
	begin := flow.Scalar(key, false) + keyEnd
	w.value(t, col, begin+blank, put, func() {
		put(begin)
		w.list(t, col+deeper, w.rowsAt(col+deeper))
	})
}

// lines puts those of a long scalar. Blanks at a line's beginning are its column's, as in each row.
func (w *writer) lines(lines []string, col int) {
	for _, line := range lines {
		text := strings.TrimLeft(line, blank)
		if text == "" {
			// No blanks stand in a row that has nothing else.
			w.rowsAt(0)(text)
			continue
		}
		w.rowsAt(col + len(line) - len(text))(text)
	}
}

// layLong are a scalar's style and lines, if it is long.
func layLong(t api.Tree) (block.Style, []string, bool) {
	if t.Kind != api.Str || !strings.Contains(t.Text, feed) {
		return block.Style{}, nil, false
	}
	return block.Lay(t.Text)
}

// anchorOf is what stands ahead of a value's text.
func anchorOf(t api.Tree) string {
	if t.Kind == api.Alias || t.Anchor == "" {
		return ""
	}
	return anchorBegin + t.Anchor + blank
}

// shortText is the text of a value that is short.
func shortText(t api.Tree) string {
	switch t.Kind {
	case api.Alias:
		return aliasBegin + t.Anchor
	case api.Seq:
		return emptySeq
	case api.Map:
		return emptyMap
	}
	return flow.Scalar(t, false)
}
