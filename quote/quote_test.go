package quote_test

import (
	"fmt"
	"math/rand"
	"strings"
	"testing"
	"unicode/utf8"

	"grommet/api"
	"grommet/quote"
	"grommet/utf"
)

// unprintable are signs that are not printable, with the bytes 9, 10 and 13, which no quotes hold either.
var unprintable = []string{
	"\t", "\n", "\r",
	"\x00", "\x01", "\x08", "\x0b", "\x0c", "\x0e", "\x1b", "\x1f", "\x7f", "\u0080", "\u0084", "\u0086", "\u009f", "\ufeff", "\ufffe", "\uffff",
}

// noSign are bytes that are no sign's.
var noSign = []string{
	"\x80", "\xbf", "\xfe", "\xff", "\xc3", "\xe2\x82", "\xf0\x9f\x98", "\xc3A", "\xe2A\xac", "\xc0\x80", "\xe0\x9f\xbf", "\xf0\x8f\xbf\xbf", "\xed\xa0\x80", "\xed\xbf\xbf", "\xf4\x90\x80\x80",
}

// ordinary are printable texts that stand in both quotes as they are.
var ordinary = []string{"a", "a b", " ", " a ", "a: b # c", "[{,}]", "~", "007", "&a *b !!c", "|", "\u00e9", "\u0085\u00a0", "\u20ac", "\U0001f600", "\ud7ff\ue000\ufefe\uff00\ufffd\U00010000\U0010ffff"}

// behinds are what may stand behind a second quote, but for a single quote.
var behinds = []string{"", " ", "a", ": b", ", c]", "\"", "\\", "\\n", " '", " \"", "\"a\"", "\t", "\n", "\x00", "\xff", "\xc3", "\ufeff", "\u20ac", "a'", "a\""}

func checkRead(t *testing.T, s, want string, count int) {
	t.Helper()
	if text, n, f := quote.Read(s); text != want || n != count || f != (api.Fault{}) {
		t.Errorf("Read(%q): %q, %d, %v, not %q, %d", s, text, n, f, want, count)
	}
}

// checkMeans asks that all of a quoted text is read.
func checkMeans(t *testing.T, s, want string) {
	t.Helper()
	checkRead(t, s, want, len(s))
}

func checkFault(t *testing.T, s string, why api.Errno, at int) {
	t.Helper()
	if text, n, f := quote.Read(s); text != "" || n != 0 || f != (api.Fault{Why: why, At: at}) {
		t.Errorf("Read(%q): %q, %d, %v, not {%v %d}", s, text, n, f, why, at)
	}
}

func checkSingle(t *testing.T, s, want string, why api.Errno) {
	t.Helper()
	if got, e := quote.Single(s); got != want || e != why {
		t.Errorf("Single(%q): %q, %v, not %q, %v", s, got, e, want, why)
	}
	if got := quote.Simple(s); got != (why == api.OK) {
		t.Errorf("Simple(%q): %v", s, got)
	}
}

func checkDouble(t *testing.T, s, want string, why api.Errno) {
	t.Helper()
	if got, e := quote.Double(s); got != want || e != why {
		t.Errorf("Double(%q): %q, %v, not %q, %v", s, got, e, want, why)
	}
}

// agreeRead holds Read against the words written a second time.
func agreeRead(t *testing.T, s string) {
	t.Helper()
	want, count, fault := wantRead(s)
	if fault.Why != api.OK {
		checkFault(t, s, fault.Why, fault.At)
		return
	}
	checkRead(t, s, want, count)
}

// agreeWrite holds the other calls against them.
func agreeWrite(t *testing.T, s string) {
	t.Helper()
	want, why := wantInSingle(s)
	checkSingle(t, s, want, why)
	want, why = wantInDouble(s)
	checkDouble(t, s, want, why)
}

func everySign(try func(sign int, s string)) {
	for sign := range 0x110000 {
		if s, e := utf.Encode(sign); e == api.OK {
			try(sign, s)
		}
	}
}

// P7.1

func TestExample(t *testing.T) {
	checkMeans(t, `'it''s'`, "it's")
	checkMeans(t, `"it's"`, "it's")
	checkMeans(t, `"\u00e9"`, "\u00e9")
	checkRead(t, `'it''s' x`, "it's", 7)
}

func TestReadOrdinary(t *testing.T) {
	for _, s := range ordinary {
		checkMeans(t, `'`+s+`'`, s)
		checkMeans(t, `"`+s+`"`, s)
	}
	checkMeans(t, `''`, "")
	checkMeans(t, `""`, "")
	checkMeans(t, `'say "so"'`, `say "so"`)
	checkMeans(t, `'"'`, `"`)
	checkMeans(t, `"'"`, `'`)
	checkMeans(t, `"''"`, `''`)
}

func TestReadKnowsNoEscapeInSingleQuotes(t *testing.T) {
	for _, s := range []string{`\`, `\\`, `\n`, `\"`, `\x41`, `\u20ac`, `\q`, `a\`} {
		checkMeans(t, `'`+s+`'`, s)
	}
	checkRead(t, `'a\'b'`, `a\`, 4)
}

func TestReadWithoutAQuote(t *testing.T) {
	for _, s := range []string{"", "a", "a'b'", "a\"b\"", " 'a'", " \"a\"", "\\", "\\\"a\"", "`a`", "\u2018a\u2019", "\u201ca\u201d", "\t", "\n", "\x00", "\xff", "\x80'a'", "~", "[", "|"} {
		checkFault(t, s, api.ErrForm, 0)
	}
	for n := range 256 {
		if n == '\'' || n == '"' {
			continue
		}
		b := string([]byte{byte(n)})
		for _, s := range []string{b, b + `''`, b + `""`, b + `a'`, b + `\`} {
			checkFault(t, s, api.ErrForm, 0)
		}
	}
}

func TestReadAQuoteAlone(t *testing.T) {
	checkFault(t, `'`, api.ErrEnd, 1)
	checkFault(t, `"`, api.ErrEnd, 1)
}

func TestReadQuotesThatStandTwice(t *testing.T) {
	checkMeans(t, `''''`, `'`)
	checkMeans(t, `''''''`, `''`)
	checkMeans(t, `'''a'`, `'a`)
	checkMeans(t, `'a'''`, `a'`)
	checkMeans(t, `'''a'''`, `'a'`)
	checkMeans(t, `'a''b''''c'`, `a'b''c`)
	checkFault(t, `'''`, api.ErrEnd, 3)
	checkFault(t, `'''''`, api.ErrEnd, 5)
	checkFault(t, `'a''`, api.ErrEnd, 4)
	checkFault(t, `'a''''`, api.ErrEnd, 6)
	checkFault(t, `'a''b`, api.ErrEnd, 5)
	checkFault(t, `'''a`, api.ErrEnd, 4)
	checkRead(t, `'' '`, "", 2)
	checkRead(t, `'a' 'b'`, "a", 3)
	checkRead(t, `'a''b' ''`, "a'b", 6)
	// In double quotes a quote ends the text, whatever stands behind it.
	checkRead(t, `""""`, "", 2)
	checkRead(t, `"a""b"`, "a", 3)
	for many := 1; many <= 40; many++ {
		s := strings.Repeat(`'`, many)
		if many%2 == 0 {
			checkMeans(t, s, strings.Repeat(`'`, many/2-1))
		} else {
			checkFault(t, s, api.ErrEnd, many)
		}
	}
}

func TestReadWhatMayNotStandInQuotes(t *testing.T) {
	for _, bad := range append(append([]string{}, unprintable...), noSign...) {
		for _, q := range []string{`'`, `"`} {
			for _, ahead := range []string{"", "a", "a b", "\u00e9\u20ac", "\U0001f600"} {
				for _, behind := range []string{"", q, "a", "a" + q, "\u20ac" + q, "\xff" + q} {
					checkFault(t, q+ahead+bad+behind, api.ErrUtf, 1+len(ahead))
				}
			}
		}
		checkFault(t, `'a''`+bad+`'`, api.ErrUtf, 4)
		checkFault(t, `"a\n`+bad+`"`, api.ErrUtf, 4)
		checkFault(t, `"\u20ac`+bad+`"`, api.ErrUtf, 7)
	}
}

func TestReadEverySign(t *testing.T) {
	everySign(func(sign int, s string) {
		stands := utf.Printable(sign) && sign != 9 && sign != 10 && sign != 13
		for _, q := range []string{`'`, `"`} {
			whole := q + "a" + s + "b" + q
			switch {
			case s == q || q == `"` && s == `\`:
			case stands:
				checkMeans(t, whole, "a"+s+"b")
			default:
				checkFault(t, whole, api.ErrUtf, 2)
			}
		}
		if t.Failed() {
			t.Fatalf("at the sign %#x", sign)
		}
	})
}

func TestReadEveryByte(t *testing.T) {
	for n := range 256 {
		b := string([]byte{byte(n)})
		for _, q := range []string{`'`, `"`} {
			for _, s := range []string{q + b, q + b + q, q + "a" + b, q + "a" + b + q, q + "a" + b + "b" + q, q + "\u20ac" + b + q + q} {
				agreeRead(t, s)
			}
		}
	}
}

func TestReadShortEscapes(t *testing.T) {
	for _, c := range [][2]string{{`\"`, `"`}, {`\\`, `\`}, {`\n`, "\n"}, {`\t`, "\t"}, {`\r`, "\r"}, {`\0`, "\x00"}} {
		checkMeans(t, `"`+c[0]+`"`, c[1])
		checkMeans(t, `"a`+c[0]+`b"`, "a"+c[1]+"b")
		checkMeans(t, `"`+c[0]+c[0]+`"`, c[1]+c[1])
		checkMeans(t, `"`+c[0]+`0"`, c[1]+"0")
		checkFault(t, `"`+c[0], api.ErrEnd, 3)
	}
	checkMeans(t, `"\"\\\n\t\r\0"`, "\"\\\n\t\r\x00")
	checkMeans(t, `"\\n"`, `\n`)
	checkMeans(t, `"\\\n"`, "\\\n")
	checkMeans(t, `"\\\""`, `\"`)
	checkRead(t, `"\\"n"`, `\`, 4)
}

func TestReadNumberedEscapes(t *testing.T) {
	for _, c := range []struct{ escape, want string }{
		{`\x00`, "\x00"}, {`\x41`, "A"}, {`\x22`, `"`}, {`\x5c`, `\`}, {`\x5C`, `\`}, {`\x0a`, "\n"}, {`\x7f`, "\x7f"}, {`\x7F`, "\x7f"}, {`\x80`, "\u0080"}, {`\xe9`, "\u00e9"}, {`\xE9`, "\u00e9"}, {`\xff`, "\u00ff"}, {`\xFF`, "\u00ff"}, {`\xfF`, "\u00ff"},
		{`\u0000`, "\x00"}, {`\u0041`, "A"}, {`\u00e9`, "\u00e9"}, {`\u07ff`, "\u07ff"}, {`\u0800`, "\u0800"}, {`\u20ac`, "\u20ac"}, {`\u20AC`, "\u20ac"}, {`\u20aC`, "\u20ac"}, {`\ud7ff`, "\ud7ff"}, {`\uD7FF`, "\ud7ff"}, {`\ue000`, "\ue000"}, {`\uE000`, "\ue000"}, {`\ufeff`, "\ufeff"}, {`\uFEFF`, "\ufeff"}, {`\uffff`, "\uffff"},
		{`\U00000000`, "\x00"}, {`\U00000041`, "A"}, {`\U000020ac`, "\u20ac"}, {`\U0000d7ff`, "\ud7ff"}, {`\U0000e000`, "\ue000"}, {`\U0000FFFF`, "\uffff"}, {`\U00010000`, "\U00010000"}, {`\U0001f600`, "\U0001f600"}, {`\U0001F600`, "\U0001f600"}, {`\U0010ffff`, "\U0010ffff"}, {`\U0010FFFF`, "\U0010ffff"},
	} {
		checkMeans(t, `"`+c.escape+`"`, c.want)
		checkMeans(t, `"a`+c.escape+`0"`, "a"+c.want+"0")
		checkMeans(t, `"`+c.escape+c.escape+`"`, c.want+c.want)
		checkFault(t, `"`+c.escape, api.ErrEnd, 1+len(c.escape))
	}
	// The digits are as many as the letter says, no more.
	checkMeans(t, `"\x411"`, "A1")
	checkMeans(t, `"\u00411"`, "A1")
	checkMeans(t, `"\U000000411"`, "A1")
}

func TestReadEveryNumber(t *testing.T) {
	for n := range 0x100 {
		checkMeans(t, fmt.Sprintf(`"\x%02x"`, n), string(rune(n)))
		checkMeans(t, fmt.Sprintf(`"\x%02X"`, n), string(rune(n)))
	}
	for n := range 0x120000 {
		numbers := []string{fmt.Sprintf(`a\U%08x`, n), fmt.Sprintf(`a\U%08X`, n)}
		if n < 0x10000 {
			numbers = append(numbers, fmt.Sprintf(`a\u%04x`, n), fmt.Sprintf(`a\u%04X`, n))
		}
		for _, s := range numbers {
			if utf8.ValidRune(rune(n)) {
				checkMeans(t, `"`+s+`"`, "a"+string(rune(n)))
			} else {
				checkFault(t, `"`+s+`"`, api.ErrForm, 2)
			}
		}
		if t.Failed() {
			t.Fatalf("at the number %#x", n)
		}
	}
}

func TestReadNumbersThatAreNoSigns(t *testing.T) {
	for _, s := range []string{
		`\ud800`, `\uD800`, `\udabc`, `\udfff`, `\uDFFF`, `\ud83d`, `\U0000d800`, `\U0000DFFF`, `\U00110000`, `\U00200000`, `\U01000000`, `\U10000041`, `\U7fffffff`, `\U80000000`, `\U80000041`, `\Uffffffff`, `\UFFFFFFFF`,
	} {
		for _, ahead := range []string{"", "a", "\u20ac", `\n`, `\\`} {
			for _, behind := range []string{`"`, "", "a", `\ude00"`, "\xff"} {
				checkFault(t, `"`+ahead+s+behind, api.ErrForm, 1+len(ahead))
			}
		}
	}
	// Two halves of a pair make no sign either.
	checkFault(t, `"\ud83d\ude00"`, api.ErrForm, 1)
}

func TestReadTooFewDigits(t *testing.T) {
	for _, whole := range []string{`\x41`, `\xfF`, `\u20aC`, `\ue000`, `\U0010fffF`, `\U0000e000`} {
		for cut := 2; cut < len(whole); cut++ {
			s := whole[:cut]
			for _, ahead := range []string{"", "ab", "\u20ac", `\\`} {
				begin := `"` + ahead + s
				// Ahead of the end the rest is missing; ahead of anything else it is no escape.
				checkFault(t, begin, api.ErrEnd, len(begin))
				for _, behind := range []string{`"`, `" x`, `""`, "g", "g\"", " ", "-", "_", "`", "@", "/", ":", "G", "\\", "\\n", "\n", "\x00", "\x10", "\xff", "\u00e9", "\uff11", `"00000000"`} {
					checkFault(t, begin+behind, api.ErrForm, 1+len(ahead))
				}
			}
		}
	}
}

func TestReadNumbersCutOffThatNoDigitsMend(t *testing.T) {
	for _, s := range []string{`"\ud8`, `"\ud80`, `"\U1`, `"\Uf`, `"\Uffffff`, `"\U0011000`} {
		checkFault(t, s, api.ErrEnd, len(s))
	}
}

func TestReadEveryByteAsADigit(t *testing.T) {
	for n := range 256 {
		b := string([]byte{byte(n)})
		isDigit := strings.Contains("0123456789abcdefABCDEF", b)
		for _, whole := range []string{`\x00`, `\u0000`, `\U00000000`} {
			for at := 2; at < len(whole); at++ {
				s := `"a` + whole[:at] + b
				if !isDigit {
					checkFault(t, s, api.ErrForm, 2)
					checkFault(t, s+`"`, api.ErrForm, 2)
					checkFault(t, s+whole[at+1:]+`"`, api.ErrForm, 2)
				}
				agreeRead(t, s)
				agreeRead(t, s+`"`)
				agreeRead(t, s+whole[at+1:])
				agreeRead(t, s+whole[at+1:]+`"`)
			}
		}
	}
}

func TestReadWhatIsNoEscape(t *testing.T) {
	for n := range 256 {
		if strings.IndexByte(`"\ntr0xuU`, byte(n)) >= 0 {
			continue
		}
		b := string([]byte{byte(n)})
		for _, ahead := range []string{"", "a", "\u20ac", `\\`, `\x41`} {
			for _, behind := range []string{`"`, "", "a", "00000000\"", "\xff", `\n"`} {
				checkFault(t, `"`+ahead+`\`+b+behind, api.ErrForm, 1+len(ahead))
			}
		}
	}
	for _, s := range []string{`\a`, `\b`, `\e`, `\v`, `\/`, `\N`, `\T`, `\R`, `\1`, `\X41`, `\'`, `\ `, `\_`, "\\\n", "\\\t", "\\\xff", "\\\u00e9", "\\\u20ac", "\\\U0001f600", "\\\ufeff", "\\\xc3"} {
		checkFault(t, `"`+s+`"`, api.ErrForm, 1)
		checkFault(t, `"`+s, api.ErrForm, 1)
	}
}

func TestReadAnEscapeAtTheEnd(t *testing.T) {
	checkFault(t, `"\`, api.ErrEnd, 2)
	checkFault(t, `"a\`, api.ErrEnd, 3)
	checkFault(t, `"\\\`, api.ErrEnd, 4)
	checkFault(t, "\"\u20ac\\", api.ErrEnd, 5)
	// The second quote is an escape's here.
	checkFault(t, `"\"`, api.ErrEnd, 3)
	checkFault(t, `"a\"`, api.ErrEnd, 4)
	checkFault(t, `"a\\\"`, api.ErrEnd, 6)
}

func TestReadWithoutASecondQuote(t *testing.T) {
	for _, s := range ordinary {
		checkFault(t, `'`+s, api.ErrEnd, 1+len(s))
		checkFault(t, `"`+s, api.ErrEnd, 1+len(s))
		checkFault(t, `'`+s+`"`, api.ErrEnd, 2+len(s))
		checkFault(t, `"`+s+`'`, api.ErrEnd, 2+len(s))
	}
}

func TestReadTellsTheFirstFault(t *testing.T) {
	for _, c := range []struct {
		s   string
		why api.Errno
		at  int
	}{
		{"a\xff\\", api.ErrForm, 0},
		{"\xff'", api.ErrForm, 0},
		{"\"\xff\\q", api.ErrUtf, 1},
		{"\"\\q\xff", api.ErrForm, 1},
		{"\"a\t\\q", api.ErrUtf, 2},
		{"\"a\\q\t", api.ErrForm, 2},
		{"\"a\\q\\z", api.ErrForm, 2},
		{"\"a\nb\xff", api.ErrUtf, 2},
		{"\"a\xffb\n", api.ErrUtf, 2},
		{"\"\\ud800\xff", api.ErrForm, 1},
		{"\"\xff\\ud800", api.ErrUtf, 1},
		{"\"\\x4\xff", api.ErrForm, 1},
		{"\"\xff\\x4", api.ErrUtf, 1},
		{"\"\\q\\x4", api.ErrForm, 1},
		{"\"\\ud800\\", api.ErrForm, 1},
		{"\"\xff", api.ErrUtf, 1},
		{"\"\\q", api.ErrForm, 1},
		{"'\xff", api.ErrUtf, 1},
		{"'a\nb\xff", api.ErrUtf, 2},
		{"'a\xffb\n'", api.ErrUtf, 2},
		{"'a''\r", api.ErrUtf, 4},
		{"'\\q\x00", api.ErrUtf, 3},
	} {
		checkFault(t, c.s, c.why, c.at)
	}
}

func TestReadShortTexts(t *testing.T) {
	parts := []string{`'`, `"`, `\`, "x", "u", "0", "d", "n", "g", " ", "\u00e9", "\n", "\xff", "\x7f"}
	shortTexts(parts, 4, func(s string) {
		agreeRead(t, s)
		agreeRead(t, `'`+s)
		agreeRead(t, `"`+s)
	})
}

func TestReadLongerTextsOfFewSigns(t *testing.T) {
	shortTexts([]string{`'`, "a", "\t"}, 8, func(s string) { agreeRead(t, `'`+s) })
	shortTexts([]string{`"`, `\`, "x", "4"}, 7, func(s string) { agreeRead(t, `"`+s) })
	shortTexts([]string{`"`, "d", "8", "7"}, 5, func(s string) { agreeRead(t, `"\u`+s) })
	shortTexts([]string{`"`, "0", "1", "d"}, 6, func(s string) { agreeRead(t, `"\U000`+s) })
}

func TestReadDrawn(t *testing.T) {
	draw := rand.New(rand.NewSource(7))
	read := 0
	for range 200000 {
		s := drawnQuoted(draw)
		agreeRead(t, s)
		agreeRead(t, s+drawnBytes(draw))
		agreeRead(t, drawnBytes(draw))
		if _, n, _ := quote.Read(s); n > 0 {
			read++
		}
	}
	if read < 50000 || read > 150000 {
		t.Errorf("%d of them are read", read)
	}
}

func TestKnowsNoLimit(t *testing.T) {
	long := strings.Repeat("it's \"so\"\\ \u20ac\x00\x01\ufeff\n", 1<<15)
	s, e := quote.Double(long)
	if e != api.OK {
		t.Fatal(e)
	}
	checkMeans(t, s, long)
	checkFault(t, s[:len(s)-1], api.ErrEnd, len(s)-1)
	fair := strings.Repeat("it's \"so\"\\ \u20ac", 1<<15)
	if s, e = quote.Single(fair); e != api.OK || !quote.Simple(fair) {
		t.Fatal(e)
	}
	checkMeans(t, s, fair)
	checkFault(t, s[:len(s)-1], api.ErrEnd, len(s)-1)
	checkSingle(t, fair+"\n", "", api.ErrUtf)
	checkDouble(t, long+"\xff", "", api.ErrUtf)
}

// P7.2

func TestSingle(t *testing.T) {
	for _, c := range [][2]string{
		{"", `''`}, {"a", `'a'`}, {" ", `' '`}, {"it's", `'it''s'`}, {"'", `''''`}, {"''", `''''''`}, {"'a'", `'''a'''`}, {"a'", `'a'''`}, {`say "so"`, `'say "so"'`}, {`\`, `'\'`}, {`\n`, `'\n'`}, {"\u00e9\u20ac\U0001f600", "'\u00e9\u20ac\U0001f600'"}, {"\u0085\u00a0", "'\u0085\u00a0'"},
	} {
		checkSingle(t, c[0], c[1], api.OK)
	}
	for _, s := range ordinary {
		checkSingle(t, s, `'`+s+`'`, api.OK)
	}
}

func TestSingleOfWhatMayNotStandThere(t *testing.T) {
	for _, bad := range append(append([]string{}, unprintable...), noSign...) {
		for _, s := range []string{bad, "a" + bad, bad + "a", "a" + bad + "b", "'" + bad + "'", "\u20ac" + bad, bad + bad} {
			checkSingle(t, s, "", api.ErrUtf)
		}
	}
	checkSingle(t, "a\r\nb", "", api.ErrUtf)
}

func TestDouble(t *testing.T) {
	for _, c := range [][2]string{
		{"", `""`}, {"a", `"a"`}, {" a ", `" a "`}, {"it's", `"it's"`}, {"'", `"'"`},
		{`"`, `"\""`}, {`\`, `"\\"`}, {`\n`, `"\\n"`}, {`say "so"`, `"say \"so\""`},
		{"\t", `"\t"`}, {"\n", `"\n"`}, {"\r", `"\r"`}, {"\x00", `"\0"`}, {"a\r\nb", `"a\r\nb"`}, {"\x000", `"\00"`},
		{"\x01", `"\x01"`}, {"\x08", `"\x08"`}, {"\x0b", `"\x0b"`}, {"\x0c", `"\x0c"`}, {"\x0e", `"\x0e"`}, {"\x1b", `"\x1b"`}, {"\x1f", `"\x1f"`}, {"\x7f", `"\x7f"`},
		{"\u0080", `"\x80"`}, {"\u0084", `"\x84"`}, {"\u0086", `"\x86"`}, {"\u009f", `"\x9f"`},
		{"\ufeff", `"\ufeff"`}, {"\ufffe", `"\ufffe"`}, {"\uffff", `"\uffff"`},
		{"\u0085", "\"\u0085\""}, {"\u00a0", "\"\u00a0\""}, {"\u00e9", "\"\u00e9\""}, {"\u20ac", "\"\u20ac\""}, {"\ufffd", "\"\ufffd\""}, {"\U0001f600", "\"\U0001f600\""}, {"\U0001ffff", "\"\U0001ffff\""}, {"\U0010ffff", "\"\U0010ffff\""},
		{"\ufeffa\x01\u20ac\"\n", "\"\\ufeffa\\x01\u20ac\\\"\\n\""},
	} {
		checkDouble(t, c[0], c[1], api.OK)
	}
	for _, s := range ordinary {
		checkDouble(t, s, `"`+s+`"`, api.OK)
	}
}

func TestDoubleOfWhatIsNoText(t *testing.T) {
	for _, bad := range noSign {
		for _, s := range []string{bad, "a" + bad, bad + "a", "a" + bad + "b", "\"\\\n" + bad, "\x00" + bad, "\ufeff" + bad, "\u20ac" + bad, bad + bad} {
			checkDouble(t, s, "", api.ErrUtf)
		}
	}
}

func TestWritesEverySign(t *testing.T) {
	everySign(func(sign int, s string) {
		agreeWrite(t, "a"+s+"0")
		if t.Failed() {
			t.Fatalf("at the sign %#x", sign)
		}
	})
}

func TestWritesShortTexts(t *testing.T) {
	shortTexts([]string{`'`, `"`, `\`, "a", "0", "\n", "\x00", "\x1f", "\u00e9", "\ufeff", "\xff", "\xe2", "\x82", "\xac"}, 4, func(s string) { agreeWrite(t, s) })
}

func TestWritesDrawn(t *testing.T) {
	draw := rand.New(rand.NewSource(72))
	for range 100000 {
		agreeWrite(t, drawnText(draw))
		agreeWrite(t, drawnBytes(draw))
	}
}

// P7.3 and P7.4

// readBack asks that a text that is put in quotes is read, whatever stands behind; it tells whether single ones could be.
func readBack(t *testing.T, s string, behind string) bool {
	t.Helper()
	double, e := quote.Double(s)
	if e != api.OK {
		t.Errorf("Double(%q): %v", s, e)
	}
	checkRead(t, double+behind, s, len(double))
	single, e := quote.Single(s)
	if e != api.OK {
		return false
	}
	// A quote behind the second one would make two of them, which are none that ends.
	if !strings.HasPrefix(behind, "'") {
		checkRead(t, single+behind, s, len(single))
	}
	return true
}

func TestWhatIsPutInQuotesIsRead(t *testing.T) {
	for _, s := range ordinary {
		for _, behind := range behinds {
			if !readBack(t, s, behind) {
				t.Errorf("%q may not stand in single quotes", s)
			}
		}
	}
	everySign(func(sign int, s string) {
		readBack(t, "a"+s+"0", " b")
		if t.Failed() {
			t.Fatalf("at the sign %#x", sign)
		}
	})
	shortTexts([]string{`'`, `"`, `\`, "a", "x", "0", "\n", "\x00", "\u00e9", "\ufeff"}, 4, func(s string) {
		readBack(t, s, "")
		readBack(t, s, `"`)
		readBack(t, s, `\`)
	})
}

func TestDrawnTextsInQuotesAreRead(t *testing.T) {
	draw := rand.New(rand.NewSource(73))
	fair := 0
	for range 200000 {
		if readBack(t, drawnText(draw), drawnBytes(draw)) {
			fair++
		}
	}
	if fair < 10000 {
		t.Errorf("only %d of them stand in single quotes", fair)
	}
}

func TestWhatStandsBehindTurnsNothing(t *testing.T) {
	count := 0
	try := func(s, behind string) {
		text, n, f := quote.Read(s)
		if f.Why != api.OK || s[0] == '\'' && strings.HasPrefix(behind, "'") {
			return
		}
		count++
		checkRead(t, s[:n], text, n)
		checkRead(t, s[:n]+behind, text, n)
	}
	for n := range 256 {
		b := string([]byte{byte(n)})
		for _, s := range []string{`''`, `""`, `'a''b'`, `'a'''`, `"a\n"`, `"\""`, `"\\"`, `"\x41"`} {
			try(s, b)
			try(s, b+b)
			try(s, b+`'`)
			try(s, b+`"`)
		}
	}
	draw := rand.New(rand.NewSource(74))
	for range 100000 {
		try(drawnQuoted(draw), drawnBytes(draw))
	}
	if count < 30000 {
		t.Errorf("only %d of them are read", count)
	}
}
