package quote_test

import (
	"fmt"
	"math/rand"
	"regexp"
	"strconv"
	"strings"
	"unicode/utf8"

	"grommet/api"
)

// The chapter's words a second time, as patterns. They are laid over a text's bytes, each of which is a rune of its own there, so that bytes that are no sign's can be told, too.
const (
	more = `[\x80-\xbf]`

	// Printable signs of several bytes, by their bytes.
	ofTwo   = `\xc2[\x85\xa0-\xbf]|[\xc3-\xdf]` + more
	ofThree = `\xe0[\xa0-\xbf]` + more + `|[\xe1-\xec\xee]` + more + more + `|\xed[\x80-\x9f]` + more +
		`|\xef[\x80-\xba\xbc-\xbe]` + more + `|\xef\xbb[\x80-\xbe]|\xef\xbf[\x80-\xbd]`
	ofFour = `\xf0[\x90-\xbf]` + more + more + `|[\xf1-\xf3]` + more + more + more + `|\xf4[\x80-\x8f]` + more + more

	long = ofTwo + `|` + ofThree + `|` + ofFour

	inSingle = `(?:''|[\x20-\x26\x28-\x7e]|` + long + `)`

	hex      = `[0-9a-fA-F]`
	fourHex  = `(?:[0-9a-cA-CefEF]` + hex + `{3}|[dD][0-7]` + hex + `{2})`
	eightHex = `(?:0000` + fourHex + `|000[1-9a-fA-F]` + hex + `{4}|0010` + hex + `{4})`
	escape   = `\\(?:["\\ntr0]|x` + hex + `{2}|u` + fourHex + `|U` + eightHex + `)`

	inDouble = `(?:[\x20\x21\x23-\x5b\x5d-\x7e]|` + long + `|` + escape + `)`
)

var (
	wholeSingle = regexp.MustCompile(`\A'(` + inSingle + `*)'(?:[^']|\z)`)
	beginSingle = regexp.MustCompile(`\A'` + inSingle + `*`)
	wholeDouble = regexp.MustCompile(`\A"(` + inDouble + `*)"`)
	beginDouble = regexp.MustCompile(`\A"` + inDouble + `*`)
	oneEscape   = regexp.MustCompile(escape)
	halfEscape  = regexp.MustCompile(`\A\\(?:x` + hex + `?|u` + hex + `{0,3}|U` + hex + `{0,7})?\z`)
	simple      = regexp.MustCompile(`\A(?:[\x20-\x7e]|` + long + `)*\z`)
)

// spread has a rune of each byte of a text, and gather turns that round.
func spread(s string) string {
	var out strings.Builder
	for i := range len(s) {
		out.WriteRune(rune(s[i]))
	}
	return out.String()
}

func gather(s string) string {
	var out strings.Builder
	for _, r := range s {
		out.WriteByte(byte(r))
	}
	return out.String()
}

func wantRead(s string) (string, int, api.Fault) {
	switch {
	case strings.HasPrefix(s, "'"):
		return wantSingle(s)
	case strings.HasPrefix(s, `"`):
		return wantDouble(s)
	}
	return "", 0, api.Fault{Why: 3}
}

func wantSingle(s string) (string, int, api.Fault) {
	wide := spread(s)
	if found := wholeSingle.FindStringSubmatch(wide); found != nil {
		body := gather(found[1])
		return strings.ReplaceAll(body, "''", "'"), len(body) + 2, api.Fault{}
	}
	at := len(gather(beginSingle.FindString(wide)))
	if at == len(s) {
		return "", 0, api.Fault{Why: 4, At: at}
	}
	return "", 0, api.Fault{Why: 8, At: at}
}

func wantDouble(s string) (string, int, api.Fault) {
	wide := spread(s)
	if found := wholeDouble.FindStringSubmatch(wide); found != nil {
		body := gather(found[1])
		return oneEscape.ReplaceAllStringFunc(body, meant), len(body) + 2, api.Fault{}
	}
	at := len(gather(beginDouble.FindString(wide)))
	switch {
	case at == len(s) || halfEscape.MatchString(s[at:]):
		return "", 0, api.Fault{Why: 4, At: len(s)}
	case s[at] == '\\':
		return "", 0, api.Fault{Why: 3, At: at}
	}
	return "", 0, api.Fault{Why: 8, At: at}
}

// meant is what an escape means.
func meant(escape string) string {
	switch escape[1] {
	case 'n':
		return "\n"
	case 't':
		return "\t"
	case 'r':
		return "\r"
	case '0':
		return "\x00"
	case 'x', 'u', 'U':
		n, err := strconv.ParseUint(escape[2:], 16, 32)
		if err != nil {
			panic(err)
		}
		return string(rune(n))
	}
	return escape[1:]
}

func wantSimple(s string) bool {
	return simple.MatchString(spread(s))
}

// wantInDouble are the double quotes' words of a whole text; the errors' numbers are the document's.
func wantInDouble(s string) (string, api.Errno) {
	if !utf8.ValidString(s) {
		return "", 8
	}
	var out strings.Builder
	for _, r := range s {
		switch {
		case r == '"' || r == '\\':
			out.WriteString(`\` + string(r))
		case r == 9:
			out.WriteString(`\t`)
		case r == 10:
			out.WriteString(`\n`)
		case r == 13:
			out.WriteString(`\r`)
		case r == 0:
			out.WriteString(`\0`)
		case wantSimple(string(r)):
			out.WriteRune(r)
		case r <= 0xff:
			fmt.Fprintf(&out, `\x%02x`, r)
		case r <= 0xffff:
			fmt.Fprintf(&out, `\u%04x`, r)
		default:
			fmt.Fprintf(&out, `\U%08x`, r)
		}
	}
	return `"` + out.String() + `"`, 0
}

func wantInSingle(s string) (string, api.Errno) {
	if !wantSimple(s) {
		return "", 8
	}
	return "'" + strings.Join(strings.Split(s, "'"), "''") + "'", 0
}

// shortTexts hands on all texts of up to long of the parts.
func shortTexts(parts []string, long int, try func(string)) {
	last := []string{""}
	try("")
	for range long {
		var next []string
		for _, s := range last {
			for _, part := range parts {
				try(s + part)
				next = append(next, s+part)
			}
		}
		last = next
	}
}

// drawnSign is one of any range that matters: its count of bytes, whether it is printable, and what quotes are made of.
func drawnSign(draw *rand.Rand) rune {
	ranges := [][2]int{
		{0, 0x1f}, {0x20, 0x7e}, {0x20, 0x7e}, {'\'', '\''}, {'"', '"'}, {'\\', '\\'}, {9, 10}, {13, 13}, {0, 0}, {0x7f, 0xa0}, {0x80, 0x7ff},
		{0x800, 0xd7ff}, {0xe000, 0xffff}, {0xfef0, 0xff0f}, {0xfff0, 0xffff}, {0x10000, 0x10ffff}, {'0', '9'}, {'a', 'f'}, {'t', 'x'},
	}
	r := ranges[draw.Intn(len(ranges))]
	return rune(r[0] + draw.Intn(r[1]-r[0]+1))
}

// drawnText is one of signs alone.
func drawnText(draw *rand.Rand) string {
	var out strings.Builder
	for range draw.Intn(12) {
		out.WriteRune(drawnSign(draw))
	}
	return out.String()
}

// drawnBytes are signs' bytes, and others between.
func drawnBytes(draw *rand.Rand) string {
	s := drawnText(draw)
	for range draw.Intn(3) {
		at := draw.Intn(len(s) + 1)
		s = s[:at] + string([]byte{byte(draw.Intn(256))}) + s[at:]
	}
	return s
}

// drawnQuoted is a quoted text, or nearly one: parts of these behind a quote, and perhaps a second quote.
func drawnQuoted(draw *rand.Rand) string {
	parts := []string{
		`'`, `''`, `"`, `\`, `\\`, `\"`, `\n`, `\t`, `\r`, `\0`, `\x41`, `\xE9`, `\xff`, `\x4`, `\xg0`, `\u20ac`, `\u20AC`, `\ud7ff`, `\ud800`, `\uDFFF`, `\ue000`, `\u12`,
		`\U0001f600`, `\U0010FFFF`, `\U00110000`, `\U0000d800`, `\Uffffffff`, `\U1234567`, `\a`, `\'`, `\X41`,
		"a", "b c", "\u00e9", "\u20ac", "\U0001f600", "\u0085", "\t", "\n", "\r", "\x00", "\x7f", "\u0080", "\ufeff", "\uffff", "\xff", "\xc3", "\xed\xa0\x80",
	}
	quote := []string{`'`, `"`}[draw.Intn(2)]
	s := quote
	for range draw.Intn(6) {
		if draw.Intn(3) > 0 {
			s += string(rune('a' + draw.Intn(26)))
		} else {
			s += parts[draw.Intn(len(parts))]
		}
	}
	if draw.Intn(4) > 0 {
		s += quote
	}
	return s
}
