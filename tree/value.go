package tree

import (
	"math"
	"slices"

	"grommet/api"
	"grommet/block"
	"grommet/flow"
	"grommet/rows"
)

// level is how many Seqs and Maps a value lies within.
type level int

// value is the one of a row that is not empty, and of those behind it.
func (around level) value(first api.Row, more []api.Row) (api.Tree, api.Fault) {
	if around == api.MaxDeep {
		return api.Tree{}, faultOf(api.ErrDeep, first)
	}
	within := around + 1
	switch {
	case isItem(first.Text):
		kids, f := kidsOf(first, more, within.item)
		return api.Tree{Kind: api.Seq, Kids: kids}, f
	case isEntry(first.Text):
		kids, f := kidsOf(first, more, within.entry)
		return api.Tree{Kind: api.Map, Kids: kids}, f
	}
	return around.meaning(first, first.Text, more)
}

// kidsOf are those of each row of the first one's column; part tells how they are read, from the row and those that belong to it.
func kidsOf(first api.Row, more []api.Row, part func(api.Row, []api.Row) ([]api.Tree, api.Fault)) ([]api.Tree, api.Fault) {
	var kids []api.Tree
	row := first
	for {
		count := deeper(more, first.Col)
		next, f := part(row, more[:count])
		if f.Why != api.OK {
			return nil, f
		}
		kids = append(kids, next...)
		if count == len(more) {
			return kids, api.Fault{}
		}
		row, more = more[count], more[count+1:]
		if row.Col < first.Col {
			return nil, faultOf(api.ErrTab, row)
		}
	}
}

// item is a Seq's value.
func (around level) item(row api.Row, under []api.Row) ([]api.Tree, api.Fault) {
	rest, ahead, ok := Item(row.Text)
	if !ok {
		return nil, faultOf(api.ErrForm, row)
	}
	var t api.Tree
	var f api.Fault
	// Neither text begins as properties, notes and styles do, so that it may be asked for ahead of these.
	if isItem(rest) || isEntry(rest) {
		t, f = around.value(api.Row{Col: moved(row.Col, ahead), Text: rest, At: row.At}, under)
	} else {
		t, f = around.meaning(row, rest, under)
	}
	return []api.Tree{t}, f
}

// entry is a Map's key and its value.
func (around level) entry(row api.Row, under []api.Row) ([]api.Tree, api.Fault) {
	key, rest, _, ok := Entry(row.Text)
	if !ok {
		return nil, faultOf(api.ErrForm, row)
	}
	if len(key.Text) > api.MaxKey {
		return nil, faultOf(api.ErrMany, row)
	}
	t, f := around.meaning(row, rest, under)
	return []api.Tree{key, t}, f
}

// meaning is what a rest means, with the rows that belong to its row.
func (around level) meaning(row api.Row, rest string, under []api.Row) (api.Tree, api.Fault) {
	p, left := cutProperties(rest)
	if isEmpty(left) {
		return around.below(row, p, under)
	}
	if st, ok := block.Head(rows.Note(left)); ok {
		return blockOf(row, p, st, under)
	}
	return lineOf(row, rest, under)
}

// below is the value of the rows that belong to a row, with the properties that it has.
func (around level) below(row api.Row, p properties, under []api.Row) (api.Tree, api.Fault) {
	heads, under, f := around.heads(head{row, p}, under)
	if f.Why != api.OK {
		return api.Tree{}, f
	}
	var t api.Tree
	if len(under) > 0 {
		t, f = around.value(under[0], under[1:])
	} else {
		last := len(heads) - 1
		t, f = heads[last].onNothing(heads[last].row)
		heads = heads[:last]
	}
	for _, h := range slices.Backward(heads) {
		if f.Why != api.OK {
			return api.Tree{}, f
		}
		t, f = h.onRows(t, h.row)
	}
	return t, f
}

// head is a row that has properties, or none, and nothing else: what it means are the rows behind it.
type head struct {
	row api.Row
	properties
}

// heads are one and those right behind it, and the rows from the first one on that is none. There may be any number of them, so that they are gone over: calls within calls would run out of room.
func (around level) heads(last head, under []api.Row) ([]head, []api.Row, api.Fault) {
	list := []head{last}
	for under = counted(under); len(under) > 0; under = counted(under[1:]) {
		row := under[0]
		if row.Col < last.row.Col {
			return nil, nil, faultOf(api.ErrTab, row)
		}
		p, left := cutProperties(row.Text)
		// A row that lies too deep is refused as what it is, the first one of a value.
		if !isEmpty(left) || around == api.MaxDeep {
			break
		}
		last = head{row, p}
		list = append(list, last)
	}
	return list, under, api.Fault{}
}

// blockOf is a block's text, with the properties that its row has.
func blockOf(row api.Row, p properties, st block.Style, under []api.Row) (api.Tree, api.Fault) {
	text, count, f := block.Take(under, row.Col, st)
	if f.Why != api.OK {
		return api.Tree{}, f
	}
	t, f := p.on(api.Tree{Kind: api.Str, Text: text}, row)
	if f.Why == api.OK {
		f = stray(row, under[count:])
	}
	return t, f
}

// lineOf is a value that stands in one line.
func lineOf(row api.Row, rest string, under []api.Row) (api.Tree, api.Fault) {
	t, long, f := flow.Read(rest, false)
	switch {
	case f.Why != api.OK:
		f.At = row.At
	case !endsLine(rest[long:]):
		f = faultOf(api.ErrForm, row)
	default:
		f = stray(row, under)
	}
	return t, f
}

// endsLine tells whether what stands behind a value of one line may stand there.
func endsLine(behind string) bool {
	left := withoutBlanks(behind)
	// A note stands behind a blank.
	return left == "" || left != behind && isEmpty(left)
}

// stray is the fault of the first row behind a whole value that is not empty, if there is one.
func stray(row api.Row, behind []api.Row) api.Fault {
	behind = counted(behind)
	switch {
	case len(behind) == 0:
		return api.Fault{}
	case behind[0].Col < row.Col:
		return faultOf(api.ErrTab, behind[0])
	}
	return faultOf(api.ErrForm, behind[0])
}

// counted are rows from the first one on that is not empty.
func counted(l []api.Row) []api.Row {
	for i, row := range l {
		if !isEmpty(row.Text) {
			return l[i:]
		}
	}
	return nil
}

// deeper is how many rows belong to a row of a column ahead of them. Empty ones at their end do, too: they may be a block's.
func deeper(l []api.Row, column int) int {
	for i, row := range l {
		if !isEmpty(row.Text) && row.Col <= column {
			return i
		}
	}
	return len(l)
}

// moved is a column that lies so many bytes behind another one, or the greatest number: no row lies deeper than that.
func moved(column, by int) int {
	return min(column, math.MaxInt-by) + by
}

func faultOf(why api.Errno, row api.Row) api.Fault {
	return api.Fault{Why: why, At: row.At}
}
