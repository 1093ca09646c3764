package flow

import (
	"strings"

	"grommet/api"
)

// properties are what stands ahead of a value.
type properties struct {
	anchor string
	tag    int // the kind that it tells, or 0 without a tag
	tagAt  int
}

// properties reads them, each at most once: a second one is left for the value, which none can begin with.
func (r *reader) properties(flow bool) (properties, api.Fault) {
	var p properties
	for {
		var f api.Fault
		switch {
		case p.anchor == "" && r.takes(anchorMark):
			p.anchor, f = r.name()
		case p.tag == 0 && r.takes(tagMark):
			p.tagAt = r.at - len(tagMark)
			p.tag, f = r.tag()
		default:
			return p, api.Fault{}
		}
		if f.Why == api.OK && !r.endsWord(flow) {
			f = r.wrongAt(r.at)
		}
		if f.Why != api.OK {
			return properties{}, f
		}
	}
}

// tag reads a tag's word that begins right there: the kind that it tells.
func (r *reader) tag() (int, api.Fault) {
	word := r.s[r.at : r.at+nameBytes(r.s[r.at:])]
	kind := kindOf(word)
	if kind == 0 {
		return 0, r.wrongAt(r.at)
	}
	r.at += len(word)
	return kind, api.Fault{}
}

// endsWord tells whether a property may end right there.
func (r *reader) endsWord(flow bool) bool {
	marks := lineMarks
	if flow {
		marks = flowMarks
	}
	return r.at == len(r.s) || strings.IndexByte(marks, r.s[r.at]) >= 0
}

// kindOf is the kind that a tag's word tells, or 0.
func kindOf(word string) int {
	switch word {
	case "null":
		return api.Null
	case "bool":
		return api.Bool
	case "int":
		return api.Int
	case "str":
		return api.Str
	case "seq":
		return api.Seq
	case "map":
		return api.Map
	}
	return 0
}

// on is a value with its properties, by its tree, and of a scalar its text as it is written.
func (p properties) on(t api.Tree, written string) (api.Tree, api.Fault) {
	if p.tag != 0 {
		t = retold(t, written, p.tag)
		if t.Kind != p.tag {
			return api.Tree{}, api.Fault{Why: api.ErrTag, At: p.tagAt}
		}
	}
	t.Anchor = p.anchor
	return t, api.Fault{}
}

// retold is a value as a tag takes it: a scalar counts by its text alone, whether that was quoted or not.
func retold(t api.Tree, written string, tag int) api.Tree {
	switch {
	case isList(t):
		return t
	case tag == api.Str:
		return api.Tree{Kind: api.Str, Text: written}
	}
	return plainTree(written)
}
