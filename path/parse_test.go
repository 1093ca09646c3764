package path_test

import (
	"fmt"
	"math/rand"
	"reflect"
	"slices"
	"strings"
	"testing"

	"grommet/api"
	"grommet/path"
)

func key(text string) path.Step { return path.Step{Key: text} }
func index(n int) path.Step     { return path.Step{Index: n, At: true} }

// way is the path of keys, which are texts, and indexes.
func way(steps ...any) []path.Step {
	var l []path.Step
	for _, step := range steps {
		switch x := step.(type) {
		case string:
			l = append(l, key(x))
		case int:
			l = append(l, index(x))
		}
	}
	return l
}

// shown is the beginning of what is told of a value.
func shown(v any) string {
	s := fmt.Sprintf("%+v", v)
	return s[:min(len(s), 999)]
}

// agreeParse holds Parse against the words written a second time, and asks what follows; it tells the fault.
func agreeParse(t *testing.T, s string) api.Fault {
	t.Helper()
	want, why := wantParse(s)
	got, f := path.Parse(s)
	if !slices.Equal(got, want) || f != why {
		t.Fatalf("Parse(%.999q): %s, %v, not %s, %v", s, shown(got), f, shown(want), why)
	}
	if f == (api.Fault{}) {
		checkFormattedAgain(t, s, got)
	}
	return f
}

// checkParse asks for a text's steps.
func checkParse(t *testing.T, s string, want ...any) {
	t.Helper()
	got, f := path.Parse(s)
	if !slices.Equal(got, way(want...)) || f != (api.Fault{}) {
		t.Fatalf("Parse(%.999q): %s, %v, not %s", s, shown(got), f, shown(way(want...)))
	}
	agreeParse(t, s)
}

// checkFault asks for a text's fault.
func checkFault(t *testing.T, s string, why api.Errno, at int) {
	t.Helper()
	if got, f := path.Parse(s); got != nil || f != (api.Fault{Why: why, At: at}) {
		t.Fatalf("Parse(%.999q): %s, %v, not %v, %d", s, shown(got), f, why, at)
	}
	agreeParse(t, s)
}

// P16.1

func TestExample(t *testing.T) {
	checkParse(t, `a.b[0]."x y"`, "a", "b", 0, "x y")
	checkFormat(t, way("a", "b", 0, "x y"), `a.b[0]."x y"`)
}

func TestNoStep(t *testing.T) {
	checkParse(t, "")
	checkFormat(t, nil, "")
}

func TestKeys(t *testing.T) {
	checkParse(t, "a", "a")
	checkParse(t, "a.b", "a", "b")
	checkParse(t, "a.b.c.d", "a", "b", "c", "d")
	// One sign.
	for _, sign := range strings.Split("abcdefghijklmnopqrstuvwxyzABCDEFGHIJKLMNOPQRSTUVWXYZ0123456789-_", "") {
		checkParse(t, sign, sign)
		checkParse(t, "a."+sign, "a", sign)
		checkParse(t, sign+"."+sign+"[5]", sign, sign, 5)
	}
	// Digits, also first ones, are no index here.
	checkParse(t, "0", "0")
	checkParse(t, "007", "007")
	checkParse(t, "5.6", "5", "6")
	checkParse(t, "5a", "5a")
	checkParse(t, "-5", "-5")
	checkParse(t, "1234567890", "1234567890")
	checkParse(t, "a-b_c-D9", "a-b_c-D9")
	checkParse(t, "--", "--")
	checkParse(t, "_._", "_", "_")
	checkParse(t, "null.true", "null", "true")
}

func TestQuotedKeys(t *testing.T) {
	checkParse(t, `""`, "")
	checkParse(t, `"".""`, "", "")
	checkParse(t, `a.""`, "a", "")
	checkParse(t, `"".a`, "", "a")
	checkParse(t, `[0].""[1]`, 0, "", 1)
	checkParse(t, `"x y"`, "x y")
	checkParse(t, `" "`, " ")
	checkParse(t, `" a "." b"`, " a ", " b")
	checkParse(t, `"a.b"`, "a.b")
	checkParse(t, `"[0]"[0]`, "[0]", 0)
	checkParse(t, `"."."]"."["`, ".", "]", "[")
	checkParse(t, `"a\"b".c`, `a"b`, "c")
	checkParse(t, `"\\".a`, `\`, "a")
	checkParse(t, `"\\\""`, `\"`)
	checkParse(t, `"\n\t\r\0"`, "\n\t\r\x00")
	checkParse(t, `"'"`, "'")
	// Signs of several bytes, as they are and as escapes.
	checkParse(t, "\"\u00e9\".\"\u20ac\".\"\U0001f600\"", "\u00e9", "\u20ac", "\U0001f600")
	checkParse(t, `"\xe9\u20ac\U0001f600"`, "\u00e9\u20ac\U0001f600")
	checkParse(t, `"\uFEFF\u200b"`, "\ufeff\u200b")
	// They could stand plain.
	checkParse(t, `"a"`, "a")
	checkParse(t, `"a"."b-_0"[7]`, "a", "b-_0", 7)
	checkParse(t, `"\u0061\x62"`, "ab")
	checkParse(t, `"0"`, "0")
}

func TestIndexes(t *testing.T) {
	checkParse(t, "[0]", 0)
	checkParse(t, "[5]", 5)
	checkParse(t, "[0][0]", 0, 0)
	checkParse(t, "[1][2][3]", 1, 2, 3)
	checkParse(t, "a[0]", "a", 0)
	checkParse(t, "[0].a", 0, "a")
	checkParse(t, "a[10].b[20][30].c", "a", 10, "b", 20, 30, "c")
	checkParse(t, `"x y"[3]`, "x y", 3)
	checkParse(t, "[9]", 9)
	checkParse(t, "[10]", 10)
	checkParse(t, "[99999]", 99999)
	checkParse(t, "[100000]", 100000)
	checkParse(t, "[123456]", 123456)
	checkParse(t, "[999999]", 999999)
	checkParse(t, "a[999999].b", "a", 999999, "b")
}

func TestMarksThatMayNotStandThere(t *testing.T) {
	// A `.` ahead of the first step, two of them, one at the end.
	checkFault(t, ".", api.ErrForm, 0)
	checkFault(t, ".a", api.ErrForm, 0)
	checkFault(t, ".[0]", api.ErrForm, 0)
	checkFault(t, `."a"`, api.ErrForm, 0)
	checkFault(t, "..", api.ErrForm, 0)
	checkFault(t, "a..b", api.ErrForm, 2)
	checkFault(t, "a..", api.ErrForm, 2)
	checkFault(t, "a...b", api.ErrForm, 2)
	checkFault(t, "[0]..b", api.ErrForm, 4)
	checkFault(t, "a.", api.ErrEnd, 2)
	checkFault(t, "a.b.", api.ErrEnd, 4)
	checkFault(t, "[0].", api.ErrEnd, 4)
	checkFault(t, `"a".`, api.ErrEnd, 4)
	// One ahead of an index.
	checkFault(t, "a.[0]", api.ErrForm, 2)
	checkFault(t, "[0].[0]", api.ErrForm, 4)
	checkFault(t, `"a".[0]`, api.ErrForm, 4)
	// None ahead of a key.
	checkFault(t, "[0]a", api.ErrForm, 3)
	checkFault(t, "a[0]b", api.ErrForm, 4)
	checkFault(t, "[0]5", api.ErrForm, 3)
	checkFault(t, `[0]"a"`, api.ErrForm, 3)
	checkFault(t, `"a"b`, api.ErrForm, 3)
	checkFault(t, `"a""b"`, api.ErrForm, 3)
	checkFault(t, `""""`, api.ErrForm, 2)
	checkFault(t, `a"b"`, api.ErrForm, 1)
	checkFault(t, `a"`, api.ErrForm, 1)
	checkFault(t, `a"\q`, api.ErrForm, 1)
	checkFault(t, "[0]\"\xff", api.ErrForm, 3)
	// A `]` that stands alone.
	checkFault(t, "]", api.ErrForm, 0)
	checkFault(t, "a]", api.ErrForm, 1)
	checkFault(t, "a.]", api.ErrForm, 2)
	checkFault(t, "[0]]", api.ErrForm, 3)
	checkFault(t, "0]", api.ErrForm, 1)
	checkFault(t, `"a"]`, api.ErrForm, 3)
}

func TestIndexesThatMayNotBe(t *testing.T) {
	// No digits.
	checkFault(t, "[]", api.ErrForm, 1)
	checkFault(t, "a[]", api.ErrForm, 2)
	checkFault(t, "[].a", api.ErrForm, 1)
	checkFault(t, "[a]", api.ErrForm, 1)
	checkFault(t, "[-1]", api.ErrForm, 1)
	checkFault(t, "[+1]", api.ErrForm, 1)
	checkFault(t, `["0"]`, api.ErrForm, 1)
	checkFault(t, "[[0]]", api.ErrForm, 1)
	checkFault(t, "[.0]", api.ErrForm, 1)
	checkFault(t, "[", api.ErrEnd, 1)
	checkFault(t, "a[", api.ErrEnd, 2)
	// A digit behind a first 0.
	checkFault(t, "[00]", api.ErrForm, 2)
	checkFault(t, "[01]", api.ErrForm, 2)
	checkFault(t, "[007]", api.ErrForm, 2)
	checkFault(t, "[01", api.ErrForm, 2)
	checkFault(t, "a[09]", api.ErrForm, 3)
	checkFault(t, "[0000000]", api.ErrForm, 2)
	// Seven digits.
	checkFault(t, "[1000000]", api.ErrForm, 7)
	checkFault(t, "[1234567]", api.ErrForm, 7)
	checkFault(t, "[9999999]", api.ErrForm, 7)
	checkFault(t, "[1234567", api.ErrForm, 7)
	checkFault(t, "[12345678", api.ErrForm, 7)
	checkFault(t, "a.b[1000000].c", api.ErrForm, 10)
	checkFault(t, "["+strings.Repeat("9", 1000)+"]", api.ErrForm, 7)
	// A `]` that is missing.
	checkFault(t, "[0", api.ErrEnd, 2)
	checkFault(t, "[12", api.ErrEnd, 3)
	checkFault(t, "[123456", api.ErrEnd, 7)
	checkFault(t, "[0.a", api.ErrForm, 2)
	checkFault(t, "[0[1]", api.ErrForm, 2)
	checkFault(t, "[5a]", api.ErrForm, 2)
	checkFault(t, "[0x1]", api.ErrForm, 2)
	checkFault(t, "[5-6]", api.ErrForm, 2)
	checkFault(t, "[5_0]", api.ErrForm, 2)
	checkFault(t, "[123456a]", api.ErrForm, 7)
	checkFault(t, "[5\"]", api.ErrForm, 2)
}

func TestBlanksAndOtherSigns(t *testing.T) {
	for _, sign := range []string{" ", "\t", "\n", "\r", "\x00", "\x7f", "'", "\\", "/", "*", "$", "@", "`", "{", ":", "^", "~", "+", ",", "#", "(", "\u00e9", "\u20ac", "\U0001f600", "\u0660", "\uff10", "\ufeff", "\xff", "\xc3", "\x80", "\xed\xa0\x80", "\xf0\x9f"} {
		checkFault(t, sign, api.ErrForm, 0)
		checkFault(t, sign+"a", api.ErrForm, 0)
		checkFault(t, "a"+sign, api.ErrForm, 1)
		checkFault(t, "a"+sign+"b", api.ErrForm, 1)
		checkFault(t, "a"+sign+".b", api.ErrForm, 1)
		checkFault(t, "a."+sign+"b", api.ErrForm, 2)
		checkFault(t, "a."+sign, api.ErrForm, 2)
		checkFault(t, "["+sign+"0]", api.ErrForm, 1)
		checkFault(t, "[0"+sign+"]", api.ErrForm, 2)
		checkFault(t, "[1"+sign+"2]", api.ErrForm, 2)
		checkFault(t, "[0]"+sign, api.ErrForm, 3)
		checkFault(t, "[0]"+sign+".a", api.ErrForm, 3)
		checkFault(t, "[0]"+sign+"[1]", api.ErrForm, 3)
		checkFault(t, `"a"`+sign, api.ErrForm, 3)
		checkFault(t, `"a"`+sign+`.b`, api.ErrForm, 3)
	}
	// Single quotes are none here.
	checkFault(t, "'a'", api.ErrForm, 0)
	checkFault(t, "a.'b'", api.ErrForm, 2)
}

func TestFaultsOfQuotedKeys(t *testing.T) {
	checkFault(t, `"`, api.ErrEnd, 1)
	checkFault(t, `"a`, api.ErrEnd, 2)
	checkFault(t, `a."`, api.ErrEnd, 3)
	checkFault(t, `a[0]."b.c[1]`, api.ErrEnd, 12)
	checkFault(t, `"a\"`, api.ErrEnd, 4)
	checkFault(t, `"a\`, api.ErrEnd, 3)
	checkFault(t, `"\u12`, api.ErrEnd, 5)
	checkFault(t, `a."b"."c`, api.ErrEnd, 8)
	checkFault(t, `"\q"`, api.ErrForm, 1)
	checkFault(t, `a."b\q"`, api.ErrForm, 4)
	checkFault(t, `a."b\'"`, api.ErrForm, 4)
	checkFault(t, `"\ud800"`, api.ErrForm, 1)
	checkFault(t, `[0]."ab\x4"`, api.ErrForm, 7)
	// What is no sign's, or a sign that may not stand there.
	checkFault(t, "\"\xff\"", api.ErrUtf, 1)
	checkFault(t, "a.\"b\xc3\"", api.ErrUtf, 4)
	checkFault(t, "a.\"b\xed\xa0\x80\"", api.ErrUtf, 4)
	checkFault(t, "[0].\"\u00e9\xe2\x82\".c", api.ErrUtf, 7)
	checkFault(t, "\"a\tb\"", api.ErrUtf, 2)
	checkFault(t, "\"a\nb\"", api.ErrUtf, 2)
	checkFault(t, "a.\"\x00\"", api.ErrUtf, 3)
	checkFault(t, "\"\ufeff\"", api.ErrUtf, 1)
	checkFault(t, "\"\x7f", api.ErrUtf, 1)
	// The first one of several.
	checkFault(t, "\"\\q\xff", api.ErrForm, 1)
	checkFault(t, "\"\xff\\q", api.ErrUtf, 1)
	checkFault(t, "\"a\\q\"..", api.ErrForm, 2)
	checkFault(t, "\"a\"..\"\\q\"", api.ErrForm, 4)
}

func TestKeysThatAreTooLong(t *testing.T) {
	for _, sign := range []string{"a", "0", "-", "_"} {
		long, more := strings.Repeat(sign, 256), strings.Repeat(sign, 257)
		checkParse(t, long, long)
		checkParse(t, long+"."+long+"[1]."+long, long, long, 1, long)
		checkFault(t, more, api.ErrMany, 0)
		checkFault(t, "b."+more, api.ErrMany, 1)
		checkFault(t, "[0]."+more, api.ErrMany, 3)
		checkFault(t, long+"."+more+"."+more, api.ErrMany, 256)
		checkParse(t, `"`+long+`"`, long)
		checkFault(t, `"`+more+`"`, api.ErrMany, 0)
		checkFault(t, `b."`+more+`"`, api.ErrMany, 1)
	}
	// Bytes count, not signs.
	checkParse(t, `"`+strings.Repeat("\u00e9", 128)+`"`, strings.Repeat("\u00e9", 128))
	checkFault(t, `"`+strings.Repeat("\u00e9", 128)+`a"`, api.ErrMany, 0)
	checkFault(t, `[7]."`+strings.Repeat("\U0001f600", 65)+`"`, api.ErrMany, 3)
	// Longer as it is written than as it is meant, and the other way round.
	checkParse(t, `"`+strings.Repeat(`\n`, 256)+`"`, strings.Repeat("\n", 256))
	checkParse(t, `"`+strings.Repeat(`\u0061`, 256)+`".b`, strings.Repeat("a", 256), "b")
	checkParse(t, `"`+strings.Repeat(`\U0001f600`, 64)+`"`, strings.Repeat("\U0001f600", 64))
	checkFault(t, `"`+strings.Repeat(`\u0061`, 257)+`"`, api.ErrMany, 0)
	checkFault(t, `a."`+strings.Repeat(`\n`, 257)+`".b`, api.ErrMany, 1)
	// What stands behind it is told no more, but what quotes have in them is, as it is no key.
	more := strings.Repeat("a", 257)
	checkFault(t, more+" ", api.ErrMany, 0)
	checkFault(t, more+".", api.ErrMany, 0)
	checkFault(t, more+`"`, api.ErrMany, 0)
	checkFault(t, "b."+more+"[", api.ErrMany, 1)
	checkFault(t, `"`+more+`"x`, api.ErrMany, 0)
	checkFault(t, `"`+more+`".`, api.ErrMany, 0)
	checkFault(t, `"`+more, api.ErrEnd, 258)
	checkFault(t, `"`+more+`\q"`, api.ErrForm, 258)
	checkFault(t, `b."`+more+"\xff\"", api.ErrUtf, 260)
	// What stands ahead of it is.
	checkFault(t, ".."+more, api.ErrForm, 0)
	checkFault(t, "b.."+more, api.ErrForm, 2)
	checkFault(t, "[0]"+more, api.ErrForm, 3)
	checkFault(t, `"\q".`+more, api.ErrForm, 1)
	checkFault(t, "b["+more, api.ErrForm, 2)
}

func TestManySteps(t *testing.T) {
	for _, x := range []struct {
		first, other string
		step         any
	}{
		{"a", ".a", "a"}, {"[0]", "[0]", 0}, {`"x y"`, `."x y"`, "x y"}, {`""`, `.""`, ""}, {"[999999]", "[999999]", 999999}, {"-", ".-", "-"},
	} {
		for count := 62; count <= 64; count++ {
			checkParse(t, x.first+strings.Repeat(x.other, count-1), slices.Repeat([]any{x.step}, count)...)
		}
		full := x.first + strings.Repeat(x.other, 63)
		for _, behind := range []string{".a", "[0]", `."x y"`, ".", "[", "..", ".[", "[]", "[00]", `."`, `."\q"`, ". ", "[x", ".\xff", ".a.a", ".a ", "[0]a", "." + strings.Repeat("a", 257), strings.Repeat("[0]", 1000), ".a..b"} {
			checkFault(t, full+behind, api.ErrMany, len(full))
		}
		// What begins no step may not stand there.
		for _, behind := range []string{" ", "]", "\xff", "'", " .a", "]."} {
			checkFault(t, full+behind, api.ErrForm, len(full))
		}
		// What is ahead of it is told first.
		checkFault(t, "."+full+".a", api.ErrForm, 0)
		checkFault(t, x.first+" "+full, api.ErrForm, len(x.first))
		checkFault(t, x.first+strings.Repeat(x.other, 62)+"."+strings.Repeat("a", 257)+".a", api.ErrMany, len(x.first)+62*len(x.other))
		checkFault(t, x.first+strings.Repeat(x.other, 62)+"[00].a", api.ErrForm, len(x.first)+62*len(x.other)+2)
		checkFault(t, x.first+strings.Repeat(x.other, 62)+`."\q".a`, api.ErrForm, len(x.first)+62*len(x.other)+2)
	}
	// A key goes on; no 65th step begins behind a bracket, or a quote, without a mark.
	checkFault(t, strings.Repeat("[0]", 64)+"a", api.ErrForm, 192)
	checkFault(t, strings.Repeat("[0]", 64)+`"a"`, api.ErrForm, 192)
	checkFault(t, `""`+strings.Repeat(`.""`, 63)+"a", api.ErrForm, 191)
	checkFault(t, `""`+strings.Repeat(`.""`, 63)+`""`, api.ErrForm, 191)
	checkFault(t, `a`+strings.Repeat(`.a`, 63)+`"`, api.ErrForm, 127)
	checkParse(t, "a"+strings.Repeat(".a", 63)+"a", append(slices.Repeat([]any{"a"}, 63), "aa")...)
	// Steps of all kinds.
	checkFault(t, strings.Repeat("a[0].", 32)+"b", api.ErrMany, 159)
	checkFault(t, strings.Repeat("a[0].", 32), api.ErrMany, 159)
	checkFault(t, strings.Repeat(`a[0]."[.".`, 21)+`a[1]`, api.ErrMany, 211)
}

func TestLongTexts(t *testing.T) {
	const many = 1 << 20
	for _, x := range []struct {
		s   string
		why api.Errno
		at  int
	}{
		{strings.Repeat("a", many), api.ErrMany, 0}, {strings.Repeat("a.", many), api.ErrMany, 127}, {strings.Repeat("[0]", many), api.ErrMany, 192}, {"[" + strings.Repeat("1", many), api.ErrForm, 7}, {strings.Repeat("[", many), api.ErrForm, 1}, {strings.Repeat(".", many), api.ErrForm, 0}, {`"` + strings.Repeat("a", many), api.ErrEnd, many + 1}, {`"` + strings.Repeat("a", many) + `"`, api.ErrMany, 0}, {`b."` + strings.Repeat(`\x`, many), api.ErrForm, 3}, {`"` + strings.Repeat(`\`, 2*many), api.ErrEnd, 2*many + 1}, {strings.Repeat(`"`, many), api.ErrForm, 2}, {strings.Repeat(" ", many), api.ErrForm, 0}, {"a" + strings.Repeat("\xff", many), api.ErrForm, 1}, {`""` + strings.Repeat(`.""`, many), api.ErrMany, 191},
	} {
		if got, f := path.Parse(x.s); got != nil || f != (api.Fault{Why: x.why, At: x.at}) {
			t.Errorf("Parse(%.99q): %s, %v, not %v, %d", x.s, shown(got), f, x.why, x.at)
		}
	}
}

// shortTexts hands on all texts of up to long of the parts.
func shortTexts(parts []string, long int, try func(string)) {
	last := []string{""}
	try("")
	for range long {
		var next []string
		for _, s := range last {
			for _, part := range parts {
				try(s + part)
				next = append(next, s+part)
			}
		}
		last = next
	}
}

func TestShortTexts(t *testing.T) {
	count := map[api.Errno]int{}
	try := func(s string) { count[agreeParse(t, s).Why]++ }
	shortTexts([]string{"a", "0", "1", ".", "[", "]", `"`, `\`, " ", "\xc3"}, 4, try)
	shortTexts([]string{"_", "0", "7", ".", "[", "]"}, 5, try)
	shortTexts([]string{"a.", "[1", "0]", `"`, "2345", "\u00e9", "."}, 5, try)
	shortTexts([]string{`a."`, `"`, "\xc3", "\xa9", "\t"}, 5, try)
	shortTexts([]string{`"\`, `"`, ".", "n", "x41", "u00e9", "[0]"}, 5, try)
	for _, why := range []api.Errno{api.OK, api.ErrForm, api.ErrEnd, api.ErrUtf} {
		if count[why] < 300 {
			t.Errorf("%v: only %d", why, count[why])
		}
	}
}

func TestDrawnTexts(t *testing.T) {
	draw := rand.New(rand.NewSource(1))
	count := map[api.Errno]int{}
	for n := range 20000 {
		s := ""
		if n%2 == 0 {
			for range draw.Intn(12) {
				s += one(draw, "a", "b-c", ".", ".", "[", "]", "[0]", "[12]", "0", "999999", `"`, `"x y"`, `""`, ` `, `\`, `\"`, `\u20ac`, "\u20ac", "\xff", strings.Repeat("a", 200), `"`+strings.Repeat("b", 250+draw.Intn(10))+`"`, strings.Repeat("[7]", 60), strings.Repeat(".z", 62))
			}
		} else {
			s, _ = path.Format(drawnPath(draw, one(draw, 4, 10, 64)))
			for range draw.Intn(3) {
				s = turnedText(draw, s)
			}
		}
		count[agreeParse(t, s).Why]++
	}
	for _, why := range []api.Errno{api.OK, api.ErrForm, api.ErrEnd, api.ErrMany, api.ErrUtf} {
		if count[why] < 100 {
			t.Errorf("%v: only %d", why, count[why])
		}
	}
}

// Fields of the other kind are zero.

func TestFieldsThatDoNotCountAreZero(t *testing.T) {
	got, _ := path.Parse(`a[5]."".b[0]`)
	want := []path.Step{{Key: "a"}, {Index: 5, At: true}, {}, {Key: "b"}, {At: true}}
	if !reflect.DeepEqual(got, want) {
		t.Error(got)
	}
}

// P16.4

// checkFormattedAgain asks of a text that was parsed as a path: what is formatted of that is parsed as it, and formatted to the same text.
func checkFormattedAgain(t *testing.T, s string, l []path.Step) {
	t.Helper()
	text, e := path.Format(l)
	again, f := path.Parse(text)
	if e != api.OK || f != (api.Fault{}) || !slices.Equal(again, l) || !path.Same(again, l) {
		t.Fatalf("Parse(%.999q): %s, whose text is %.999q (%v), that is parsed as %s, %v", s, shown(l), text, e, shown(again), f)
	}
	if last, e := path.Format(again); last != text || e != api.OK {
		t.Fatalf("Format(%s): %.999q, and then %.999q, %v", shown(l), text, last, e)
	}
}

func TestWhatIsParsedIsFormatted(t *testing.T) {
	for s, want := range map[string]string{
		"": "", "a": "a", "a.b[0]": "a.b[0]", `a.b[0]."x y"`: `a.b[0]."x y"`, `""`: `""`, `"a"`: "a", `"\u0061"."b"[1]`: "a.b[1]", `"\x0a"`: `"\n"`, `"\u00e9"`: "\"\u00e9\"", `"\U0000000D\x00"`: `"\r\0"`, `"\x7F"`: `"\x7f"`, `"007"[7]`: "007[7]", `"a b"`: `"a b"`, `"a\\\"b"`: `"a\\\"b"`,
	} {
		l, f := path.Parse(s)
		if got, e := path.Format(l); got != want || e != api.OK || f != (api.Fault{}) {
			t.Errorf("Format of Parse(%q): %q, %v, %v, not %q", s, got, e, f, want)
		}
		agreeParse(t, s)
	}
}
