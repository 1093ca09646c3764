package flow

import (
	"strings"

	"grommet/api"
)

// What stands between the parts of a bracket, and behind a key.
const (
	betweenParts = comma + blank
	behindKey    = colon + blank
)

// write writes a tree that may be.
func write(w *strings.Builder, t api.Tree) {
	if t.Kind == api.Alias {
		w.WriteString(aliasMark + t.Anchor)
		return
	}
	if t.Anchor != "" {
		w.WriteString(anchorMark + t.Anchor + blank)
	}
	switch t.Kind {
	case api.Seq:
		w.WriteString(seqBegin)
		writeKids(w, t)
		w.WriteString(seqEnd)
	case api.Map:
		w.WriteString(mapBegin)
		writeKids(w, t)
		w.WriteString(mapEnd)
	default:
		w.WriteString(Scalar(t, true))
	}
}

func writeKids(w *strings.Builder, t api.Tree) {
	for i, kid := range t.Kids {
		switch {
		case i == 0:
		case isKeyPlace(t, i-1):
			w.WriteString(behindKey)
		default:
			w.WriteString(betweenParts)
		}
		write(w, kid)
	}
}
