package tree

import (
	"strings"

	"grommet/api"
	"grommet/flow"
)

// properties are what may stand ahead of a value.
type properties struct {
	anchor string
	tag    int // the kind that it tells, or 0 without a tag
}

// cutProperties are those of a rest, and what is left of it.
func cutProperties(rest string) (properties, string) {
	var p properties
	for {
		rest = withoutBlanks(rest)
		word, behind, _ := strings.Cut(rest, blank)
		more := p.with(word)
		if more == p {
			return p, rest
		}
		p, rest = more, behind
	}
}

// with are the properties with a word's one: the same, if it is none, or there is one already.
func (p properties) with(word string) properties {
	name, isAnchor := strings.CutPrefix(word, anchorMark)
	switch {
	case isAnchor:
		if p.anchor == "" && flow.Name(name) {
			p.anchor = name
		}
	case p.tag == 0:
		p.tag = kindOf(word)
	}
	return p
}

// kindOf is the kind that a tag tells, or 0 of what is none.
func kindOf(word string) int {
	switch word {
	case "!!null":
		return api.Null
	case "!!bool":
		return api.Bool
	case "!!int":
		return api.Int
	case "!!str":
		return api.Str
	case "!!seq":
		return api.Seq
	case "!!map":
		return api.Map
	}
	return 0
}

// on is a value with its properties, which a row has.
func (p properties) on(t api.Tree, row api.Row) (api.Tree, api.Fault) {
	if p.tag != 0 && p.tag != t.Kind {
		return api.Tree{}, faultOf(api.ErrTag, row)
	}
	t.Anchor = p.anchor
	return t, api.Fault{}
}

// onNothing is Null with its properties.
func (p properties) onNothing(row api.Row) (api.Tree, api.Fault) {
	kind := api.Null
	if p.tag == api.Str {
		kind = api.Str
	}
	return p.on(api.Tree{Kind: kind}, row)
}

// onRows is the value of rows with the properties that stand ahead of them.
func (p properties) onRows(t api.Tree, row api.Row) (api.Tree, api.Fault) {
	if p == (properties{}) {
		return t, api.Fault{}
	}
	isScalar := t.Kind != api.Seq && t.Kind != api.Map
	// An Alias has an Anchor, too: its name.
	if t.Anchor != "" || isScalar && p.tag != 0 {
		return api.Tree{}, faultOf(api.ErrForm, row)
	}
	return p.on(t, row)
}
