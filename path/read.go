package path

import (
	"grommet/api"
	"grommet/quote"
)

const (
	keyMark    = '.'
	indexBegin = '['
	indexEnd   = ']'
	quoteMark  = '"'
)

// goesOn tells whether a byte is one with which a step begins that is not the first one.
func goesOn(b byte) bool {
	return b == keyMark || b == indexBegin
}

// readStep is the step that begins at a byte, and the byte behind it.
func readStep(s string, at int) (Step, int, api.Fault) {
	switch {
	case s[at] == indexBegin:
		return readIndex(s, at+1)
	case at == 0:
		return readKey(s, at, at)
	case s[at] == keyMark:
		return readKey(s, at, at+1)
	}
	return Step{}, 0, api.Fault{Why: api.ErrForm, At: at}
}

// readKey is the key that stands at a byte, of a step that begins at the same one or the one ahead of it, and the byte behind the key.
func readKey(s string, begin, at int) (Step, int, api.Fault) {
	if at == len(s) {
		return Step{}, 0, api.Fault{Why: api.ErrEnd, At: at}
	}
	key, end, f := keyAt(s, at)
	if f.Why != api.OK {
		return Step{}, 0, f
	}
	if len(key) > api.MaxKey {
		return Step{}, 0, api.Fault{Why: api.ErrMany, At: begin}
	}
	return Step{Key: key}, end, api.Fault{}
}

// keyAt is a key of any length.
func keyAt(s string, at int) (string, int, api.Fault) {
	if s[at] == quoteMark {
		key, long, f := quote.Read(s[at:])
		if f.Why != api.OK {
			return "", 0, api.Fault{Why: f.Why, At: at + f.At}
		}
		return key, at + long, api.Fault{}
	}
	end := at + plainBytes(s[at:])
	if end == at {
		return "", 0, api.Fault{Why: api.ErrForm, At: at}
	}
	return s[at:end], end, api.Fault{}
}

// plainBytes is how many bytes with which a text begins stand in a key as they are.
func plainBytes(s string) int {
	for i := range len(s) {
		if !isPlain(s[i]) {
			return i
		}
	}
	return len(s)
}

func isPlain(b byte) bool {
	return 'a' <= b && b <= 'z' || 'A' <= b && b <= 'Z' || isDigit(b) || b == '-' || b == '_'
}

func isDigit(b byte) bool {
	return '0' <= b && b <= '9'
}

// readIndex is the index whose digits begin at a byte, and the byte behind its bracket.
func readIndex(s string, begin int) (Step, int, api.Fault) {
	index, at := 0, begin
	for at < len(s) && isDigit(s[at]) && mayGrow(index, at-begin) {
		index = 10*index + int(s[at]-'0')
		at++
	}
	if at == len(s) {
		return Step{}, 0, api.Fault{Why: api.ErrEnd, At: at}
	}
	if at == begin || s[at] != indexEnd {
		return Step{}, 0, api.Fault{Why: api.ErrForm, At: at}
	}
	return Step{Index: index, At: true}, at + 1, api.Fault{}
}

// mayGrow tells whether one more digit may stand behind so many of an index.
func mayGrow(index, digits int) bool {
	return digits == 0 || index > 0 && digits < maxDigits
}
