package flow

import (
	"strings"

	"grommet/api"
	"grommet/plain"
	"grommet/quote"
)

// reader reads a text from its beginning on.
type reader struct {
	s    string
	at   int // the place up to which was read: blanks alone never move it, so that a value ends ahead of those behind it
	deep int // how many brackets are open
}

// value reads one with its properties, or an Alias: behind properties none is asked for, since its sign begins no plain text.
func (r *reader) value(flow bool) (api.Tree, api.Fault) {
	if r.takes(aliasMark) {
		name, f := r.name()
		return api.Tree{Kind: api.Alias, Anchor: name}, f
	}
	p, f := r.properties(flow)
	if f.Why != api.OK {
		return api.Tree{}, f
	}
	t, written, f := r.content(flow)
	if f.Why != api.OK {
		return api.Tree{}, f
	}
	return p.on(t, written)
}

// content reads what stands behind the properties: its tree, and of a scalar the text as it is written.
func (r *reader) content(flow bool) (api.Tree, string, api.Fault) {
	switch {
	case r.sees(seqBegin):
		kids, f := r.bracket(seqEnd, r.item)
		return api.Tree{Kind: api.Seq, Kids: kids}, "", f
	case r.sees(mapBegin):
		kids, f := r.bracket(mapEnd, r.entry)
		return api.Tree{Kind: api.Map, Kids: kids}, "", f
	}
	return r.scalar(flow)
}

// bracket reads one with its parts, up to its end; part tells how each of them is read.
func (r *reader) bracket(end string, part func() ([]api.Tree, api.Fault)) ([]api.Tree, api.Fault) {
	begin := r.next()
	if r.deep == api.MaxDeep {
		return nil, api.Fault{Why: api.ErrDeep, At: begin}
	}
	r.deep++
	r.at = begin + 1
	var kids []api.Tree
	for !r.takes(end) {
		more, f := part()
		if f.Why != api.OK {
			return nil, f
		}
		kids = append(kids, more...)
		if !r.takes(comma) && !r.sees(end) {
			return nil, r.wrong()
		}
	}
	r.deep--
	return kids, api.Fault{}
}

// item reads a Seq's value.
func (r *reader) item() ([]api.Tree, api.Fault) {
	from := r.at
	t, f := r.value(true)
	if f.Why == api.OK && r.at == from {
		f = r.wrong()
	}
	return []api.Tree{t}, f
}

// entry reads a Map's key and its value.
func (r *reader) entry() ([]api.Tree, api.Fault) {
	from := r.at
	key, _, f := r.scalar(true)
	if f.Why != api.OK {
		return nil, f
	}
	if r.at == from || !r.takesColon() {
		return nil, r.wrong()
	}
	t, f := r.value(true)
	return []api.Tree{key, t}, f
}

// scalar reads one: its tree, and the text as it is written. Where none stands nothing is read, which is Null.
func (r *reader) scalar(flow bool) (api.Tree, string, api.Fault) {
	if r.sees(single) || r.sees(double) {
		text, f := r.quoted()
		return api.Tree{Kind: api.Str, Text: text}, text, f
	}
	text, f := r.unquoted(flow)
	return plainTree(text), text, f
}

func (r *reader) quoted() (string, api.Fault) {
	at := r.next()
	text, long, f := quote.Read(r.s[at:])
	if f.Why != api.OK {
		f.At += at
		return "", f
	}
	r.at = at + long
	return text, api.Fault{}
}

func (r *reader) unquoted(flow bool) (string, api.Fault) {
	at := r.next()
	text, _ := plain.Cut(r.s[at:], flow)
	if text == "" {
		return "", api.Fault{}
	}
	if !plain.Is(text, flow) {
		return "", api.Fault{Why: api.ErrForm, At: at}
	}
	r.at = at + len(text)
	return text, api.Fault{}
}

// plainTree is a scalar that stands as it is.
func plainTree(text string) api.Tree {
	kind := plain.Resolve(text)
	if kind == api.Null {
		text = ""
	}
	return api.Tree{Kind: kind, Text: text}
}

// name reads one that begins right there.
func (r *reader) name() (string, api.Fault) {
	long := nameBytes(r.s[r.at:])
	switch {
	case long == 0:
		return "", r.wrongAt(r.at)
	case long > maxName:
		return "", r.wrongAt(r.at + maxName)
	}
	name := r.s[r.at : r.at+long]
	r.at += long
	return name, api.Fault{}
}

// next is the place of the next byte that is no blank, or the length.
func (r *reader) next() int {
	return len(r.s) - len(strings.TrimLeft(r.s[r.at:], blank))
}

// sees tells whether a sign is next.
func (r *reader) sees(sign string) bool {
	return strings.HasPrefix(r.s[r.next():], sign)
}

// takes reads a sign, if it is next, and tells whether it was.
func (r *reader) takes(sign string) bool {
	if !r.sees(sign) {
		return false
	}
	r.at = r.next() + len(sign)
	return true
}

// takesColon reads a colon that ends a key, if one is next, and tells whether it was.
func (r *reader) takesColon() bool {
	// Layer 6 has nothing ahead of a colon that ends; any other one is a part of its text.
	_, ahead := plain.Cut(r.s[r.next():], true)
	return ahead == 0 && r.takes(colon)
}

// wrong is the fault of what is next, where something else must stand.
func (r *reader) wrong() api.Fault {
	return r.wrongAt(r.next())
}

// wrongAt is the fault of what stands at a place, where something else must; at the end that is missing.
func (r *reader) wrongAt(at int) api.Fault {
	if at == len(r.s) {
		return api.Fault{Why: api.ErrEnd, At: at}
	}
	return api.Fault{Why: api.ErrForm, At: at}
}
