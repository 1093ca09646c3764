package flow

import (
	"grommet/api"
	"grommet/plain"
	"grommet/utf"
)

// judge tells whether trees may be, and counts them.
type judge struct {
	trees int
}

// allows tells of a tree with all within it, that lies within so many Seqs and Maps. It ends at the first thing that may not be, so that no tree is gone over further than the limits.
func (j *judge) allows(t api.Tree, deep int) bool {
	j.trees++
	if isList(t) {
		deep++
	}
	if j.trees > api.MaxNodes || deep > api.MaxDeep || !rightAlone(t) {
		return false
	}
	for i, kid := range t.Kids {
		if isKeyPlace(t, i) && !isKey(kid) || !j.allows(kid, deep) {
			return false
		}
	}
	return true
}

// rightAlone tells whether a tree may be, whatever its Kids are.
func rightAlone(t api.Tree) bool {
	return rightText(t) && rightAnchor(t) && rightCount(t)
}

// rightText also asks that the kind is one.
func rightText(t api.Tree) bool {
	switch t.Kind {
	case api.Null, api.Seq, api.Map, api.Alias:
		return t.Text == ""
	case api.Bool, api.Int:
		return plain.Resolve(t.Text) == t.Kind
	case api.Str:
		_, f := utf.Decode(t.Text)
		return f.Why == api.OK
	}
	return false
}

func rightAnchor(t api.Tree) bool {
	if t.Anchor == "" {
		return t.Kind != api.Alias
	}
	return Name(t.Anchor)
}

func rightCount(t api.Tree) bool {
	switch t.Kind {
	case api.Seq:
		return true
	case api.Map:
		return len(t.Kids)%2 == 0
	}
	return len(t.Kids) == 0
}

func isList(t api.Tree) bool {
	return t.Kind == api.Seq || t.Kind == api.Map
}

// isKeyPlace tells whether a key stands at a place of a tree's Kids.
func isKeyPlace(t api.Tree, place int) bool {
	return t.Kind == api.Map && place%2 == 0
}

func isKey(t api.Tree) bool {
	switch t.Kind {
	case api.Null, api.Bool, api.Int, api.Str:
		return t.Anchor == ""
	}
	return false
}
