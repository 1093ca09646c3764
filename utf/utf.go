// Package utf is layer 1: texts, byte by byte: see shared/doc/01-utf.md.
package utf

import (
	"grommet/api"
)

// The numbers that are signs: up to lastSign, but for a gap within.
const (
	lastSign = 0x10FFFF
	firstGap = 0xD800
	lastGap  = 0xDFFF
)

// The number below which a sign has so many bytes.
const (
	endOfOne   = 0x80
	endOfTwo   = 0x800
	endOfThree = 0x10000
)

// What the upper bits of a sign's bytes tell: how many bytes there are, or that a byte is not the first one.
const (
	headOfTwo   = 0xC0
	headOfThree = 0xE0
	headOfFour  = 0xF0
	headOfRest  = 0x80
)

// A byte that is not the first one has so many of its sign's bits.
const (
	restBits = 6
	restMask = 1<<restBits - 1
)

// byteMark is printable nowhere, though both of its neighbours are.
const byteMark = 0xFEFF

// Encode are signs' bytes.
func Encode(signs ...int) (string, api.Errno) {
	if !areSigns(signs...) {
		return "", api.ErrUtf
	}
	return string(appendSigns(nil, signs...)), api.OK
}

// First is the first sign of a text, and how many bytes it has.
func First(s string) (int, int) {
	if s == "" {
		return -1, 0
	}
	sign, long := head(s[0])
	if long == 0 || long > len(s) {
		return -1, 1
	}
	for i := 1; i < long; i++ {
		if !isRest(s[i]) {
			return -1, 1
		}
		sign = sign<<restBits | int(s[i]&restMask)
	}
	// Bits that fit may still be no sign, or one that has fewer bytes of its own.
	if !isSign(sign) || width(sign) != long {
		return -1, 1
	}
	return sign, long
}

// Decode are a text's signs.
func Decode(s string) ([]int, api.Fault) {
	var signs []int
	for at := 0; at < len(s); {
		sign, long := First(s[at:])
		if sign < 0 {
			return nil, api.Fault{Why: api.ErrUtf, At: at}
		}
		signs = append(signs, sign)
		at += long
	}
	return signs, api.Fault{}
}

// Printable tells whether a sign is printable.
func Printable(sign int) bool {
	switch {
	case sign == '\t', sign == '\n', sign == '\r', sign == 0x85:
		return true
	case sign == byteMark:
		return false
	}
	return within(sign, 0x20, 0x7E) || within(sign, 0xA0, firstGap-1) ||
		within(sign, lastGap+1, 0xFFFD) || within(sign, endOfThree, lastSign)
}

// Check asks that all of a text is signs' bytes, and printable.
func Check(s string) api.Fault {
	for at := 0; at < len(s); {
		sign, long := First(s[at:])
		// Where there is no sign it is -1, which is not printable either.
		if !Printable(sign) {
			return api.Fault{Why: api.ErrUtf, At: at}
		}
		at += long
	}
	return api.Fault{}
}

// Count is how many signs there are.
func Count(s string) int {
	count := 0
	for at := 0; at < len(s); count++ {
		_, long := First(s[at:])
		at += long
	}
	return count
}

func within(n, first, last int) bool {
	return first <= n && n <= last
}

func isSign(n int) bool {
	return within(n, 0, lastSign) && !within(n, firstGap, lastGap)
}

func areSigns(numbers ...int) bool {
	for _, n := range numbers {
		if !isSign(n) {
			return false
		}
	}
	return true
}

// width is how many bytes a sign has.
func width(sign int) int {
	switch {
	case sign < endOfOne:
		return 1
	case sign < endOfTwo:
		return 2
	case sign < endOfThree:
		return 3
	}
	return 4
}

// appendSigns are bytes with signs' bytes behind them.
func appendSigns(b []byte, signs ...int) []byte {
	for _, sign := range signs {
		switch width(sign) {
		case 1:
			b = append(b, byte(sign))
		case 2:
			b = append(b, headOfTwo|byte(sign>>restBits), rest(sign, 0))
		case 3:
			b = append(b, headOfThree|byte(sign>>(2*restBits)), rest(sign, 1), rest(sign, 0))
		default:
			b = append(b, headOfFour|byte(sign>>(3*restBits)), rest(sign, 2), rest(sign, 1), rest(sign, 0))
		}
	}
	return b
}

// rest is the byte of a sign that has behind of them behind it.
func rest(sign, behind int) byte {
	return headOfRest | byte(sign>>(behind*restBits))&restMask
}

func isRest(b byte) bool {
	return b&^restMask == headOfRest
}

// head is what a first byte has of its sign's bits, and how many bytes that sign has: none, if no sign begins so.
func head(b byte) (int, int) {
	switch {
	case b < endOfOne:
		return int(b), 1
	case b&^0x1F == headOfTwo:
		return int(b & 0x1F), 2
	case b&^0x0F == headOfThree:
		return int(b & 0x0F), 3
	case b&^0x07 == headOfFour:
		return int(b & 0x07), 4
	}
	return 0, 0
}
