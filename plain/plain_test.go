package plain_test

import (
	"fmt"
	"math"
	"math/big"
	"math/rand"
	"regexp"
	"strings"
	"testing"

	"grommet/api"
	"grommet/plain"
	"grommet/utf"
)

// allMarks are the chapter's marks, and flowMarks those that end a text in a flow.
var (
	allMarks  = append(strings.Fields(`? : , [ ] { } # & * ! | > ' " % @`), string(rune(96)))
	flowMarks = strings.Fields(`, [ ] { }`)
)

// both are a flow, and none.
var both = []bool{false, true}

// notPlain are the chapter's words on what no plain text is, one by one; notInFlow those that a flow adds.
var (
	notPlain = patterns(
		`\A\z`, `\A `, ` \z`, "\\A[?:,\\[\\]{}#&*!|>'\"%@\x60]", `\A-\z`, `\A---\z`, `\A- `,
		`:\z`, `: `, ` #`, `\t`, `\n`, `\r`,
	)
	notInFlow = patterns(`\A-[,\[\]{}]`, `:[,\[\]{}]`, `[,\[\]{}]`)
)

// Where a text is cut: of a note's pattern one byte behind its beginning.
var (
	cutPlace  = regexp.MustCompile(`:\z|: | #`)
	flowPlace = regexp.MustCompile(`:\z|: | #|:[,\[\]{}]|[,\[\]{}]`)
)

var number = regexp.MustCompile(`\A(0|-?[1-9][0-9]*)\z`)

func patterns(list ...string) []*regexp.Regexp {
	var all []*regexp.Regexp
	for _, s := range list {
		all = append(all, regexp.MustCompile(s))
	}
	return all
}

func wantIs(s string, flow bool) bool {
	rules := notPlain
	if flow {
		rules = append(rules[:len(rules):len(rules)], notInFlow...)
	}
	for _, rule := range rules {
		if rule.MatchString(s) {
			return false
		}
	}
	return utf.Check(s) == api.Fault{}
}

func wantCut(s string, flow bool) (string, int) {
	places := cutPlace
	if flow {
		places = flowPlace
	}
	at := len(s)
	if found := places.FindStringIndex(s); found != nil {
		at = found[0]
		if s[at] == ' ' {
			at++
		}
	}
	text := s[:at]
	for strings.HasSuffix(text, " ") {
		text = text[:len(text)-1]
	}
	return text, at
}

func wantNumber(s string) (int, bool) {
	n, ok := new(big.Int).SetString(s, 10)
	if !number.MatchString(s) || !ok || !n.IsInt64() {
		return 0, false
	}
	return int(n.Int64()), true
}

func checkIs(t *testing.T, s string, flow, want bool) {
	t.Helper()
	if got := plain.Is(s, flow); got != want {
		t.Errorf("Is(%q, %v): %v", s, flow, got)
	}
}

func checkCut(t *testing.T, s string, flow bool, want string, place int) {
	t.Helper()
	if got, at := plain.Cut(s, flow); got != want || at != place {
		t.Errorf("Cut(%q, %v): %q, %d, not %q, %d", s, flow, got, at, want, place)
	}
}

func checkNumber(t *testing.T, s string, want int, isOne bool) {
	t.Helper()
	if n, ok := plain.Number(s); n != want || ok != isOne {
		t.Errorf("Number(%q): %d, %v, not %d, %v", s, n, ok, want, isOne)
	}
}

// agree holds every call against the words written a second time.
func agree(t *testing.T, s string) {
	t.Helper()
	for _, flow := range both {
		checkIs(t, s, flow, wantIs(s, flow))
		text, place := wantCut(s, flow)
		checkCut(t, s, flow, text, place)
	}
	n, ok := wantNumber(s)
	checkNumber(t, s, n, ok)
	if got, want := plain.Resolve(s), wantKind(s); got != want {
		t.Errorf("Resolve(%q): %d, not %d", s, got, want)
	}
}

func wantKind(s string) int {
	_, isNumber := wantNumber(s)
	switch {
	case s == "" || s == "~" || s == "null":
		return 1
	case s == "true" || s == "false":
		return 2
	case isNumber:
		return 3
	}
	return 4
}

// shortTexts hands on all texts of up to long of the parts.
func shortTexts(parts []string, long int, try func(string)) {
	last := []string{""}
	try("")
	for range long {
		var next []string
		for _, s := range last {
			for _, part := range parts {
				try(s + part)
				next = append(next, s+part)
			}
		}
		last = next
	}
}

// drawnText is one of parts that matter here, and of some that do not.
func drawnText(draw *rand.Rand) string {
	parts := append(strings.Split(":# -,[]{}?&*!|>'\"%@`", ""),
		" ", " ", ": ", " #", "a", "b", "word", "0", "7", "true", "~", "\u00e9", "\u20ac", "\U0001f600", "\t", "\xff", "\ufeff")
	var s strings.Builder
	for range draw.Intn(12) {
		if draw.Intn(3) > 0 {
			s.WriteByte(byte('a' + draw.Intn(26)))
		} else {
			s.WriteString(parts[draw.Intn(len(parts))])
		}
	}
	return s.String()
}

// drawnNumber is one of any count of bits.
func drawnNumber(draw *rand.Rand) int {
	return int(draw.Uint64()) >> draw.Intn(64)
}

// edgeNumbers are the ends of ints, of digits and of bits, with their neighbours.
func edgeNumbers() []int {
	list := []int{math.MinInt, math.MinInt + 1, math.MaxInt, math.MaxInt - 1}
	for n := -1100; n <= 1100; n++ {
		list = append(list, n)
	}
	for ten := 1; ten <= math.MaxInt/10; ten *= 10 {
		list = append(list, ten*10-1, ten*10, ten*10+1, -ten*10-1, -ten*10, -ten*10+1)
	}
	for bit := range 63 {
		list = append(list, 1<<bit-1, 1<<bit, 1<<bit+1, -1<<bit-1, -1<<bit, -1<<bit+1)
	}
	return list
}

// P6.1: Is

func TestExample(t *testing.T) {
	checkCut(t, "a b: c", false, "a b", 3)
	for _, flow := range both {
		checkIs(t, "-5", flow, true)
		checkIs(t, "a: b", flow, false)
	}
	if kind := plain.Resolve("-5"); kind != api.Int {
		t.Error(kind)
	}
}

func TestIs(t *testing.T) {
	for _, c := range []struct {
		s       string
		is, too bool // not in a flow, and in one
	}{
		{"a", true, true},
		{"a b", true, true},
		{"a  b   c", true, true},
		{"it's", true, true},
		{"say \"so\"", true, true},
		{"http://a.b/c?d=e&f#g", true, true},
		{"~", true, true},
		{"null", true, true},
		{"007", true, true},
		{"+1", true, true},
		{"1.5", true, true},
		{".", true, true},
		{"...", true, true},
		{"=", true, true},
		{"<<", true, true},
		{"\\n", true, true},
		{"a-", true, true},
		{"\u00e9t\u00e9 \u20ac \U0001f600", true, true},
		{"a\u0085b", true, true},
		{"\u00a0a\u00a0", true, true}, // a blank is 32 alone
		{"a, b", true, false},
		{"f(x)[0]", true, false},
		{"a{b}", true, false},
	} {
		checkIs(t, c.s, false, c.is)
		checkIs(t, c.s, true, c.too)
	}
}

func TestIsNothingAndBlanks(t *testing.T) {
	for _, flow := range both {
		for _, s := range []string{"", " ", "  ", "   ", " a", "  a", "a ", "a  ", " a ", " a b", "a b ", " -5", "-5 ", " ~", "\u00e9 "} {
			checkIs(t, s, flow, false)
		}
		checkIs(t, "a b", flow, true)
		checkIs(t, "a    b", flow, true)
	}
}

func TestIsMarksAtTheBeginning(t *testing.T) {
	if len(allMarks) != 18 || len(flowMarks) != 5 {
		t.Fatal(allMarks, flowMarks)
	}
	for _, mark := range allMarks {
		for _, behind := range []string{"", "a", "ab c", " a", mark, "-", "\u00e9"} {
			for _, flow := range both {
				checkIs(t, mark+behind, flow, false)
			}
		}
	}
}

func TestIsMarksInTheMiddle(t *testing.T) {
	inFlow := strings.Join(flowMarks, "")
	for _, mark := range allMarks {
		free := !strings.Contains(inFlow, mark)
		for _, s := range []string{"a" + mark + "b", "-" + mark + "b", "a b" + mark + "c d", "\u00e9" + mark + "\u00e9", "a" + mark + mark + "b"} {
			checkIs(t, s, false, true)
			checkIs(t, s, true, free)
		}
		checkIs(t, "a"+mark, false, mark != ":")
		checkIs(t, "a"+mark, true, mark != ":" && free)
		checkIs(t, "a "+mark+"b", false, mark != "#")
		checkIs(t, "a "+mark+"b", true, mark != "#" && free)
		checkIs(t, "a"+mark+" b", false, mark != ":")
		checkIs(t, "a"+mark+" b", true, mark != ":" && free)
	}
}

func TestOnlyMarksAreRefusedAtTheBeginning(t *testing.T) {
	marks := strings.Join(allMarks, "")
	for b := byte(33); b < 127; b++ {
		s := string(rune(b)) + "a"
		want := strings.IndexByte(marks, b) < 0
		checkIs(t, s, false, want)
		checkIs(t, s, true, want)
	}
}

func TestIsDashes(t *testing.T) {
	for _, flow := range both {
		for _, s := range []string{"-", "---", "- ", "- a", "-  a", "- -", "- - a", "- ---", "-\ta", "-: ", "-:", "- :"} {
			checkIs(t, s, flow, false)
		}
		for _, s := range []string{"--", "----", "-a", "-1", "-a b", "--a", "---a", "--- a", "-- a", "a-", "a -", "a - b", "a --- b", "-?", "-#", "-:a", "-&", "-\u00e9", "\u2013", "\u2013 a"} {
			checkIs(t, s, flow, true)
		}
	}
	for _, mark := range flowMarks {
		for _, s := range []string{"-" + mark, "-" + mark + "a", "-a" + mark, "---" + mark} {
			checkIs(t, s, false, true)
			checkIs(t, s, true, false)
		}
	}
}

func TestIsColons(t *testing.T) {
	for _, flow := range both {
		for _, s := range []string{":", "a:", "a b:", "a: b", "a:  b", "a : b", "a :", "a::", "a:: b", "a:b:", "a:b: c", "-:", "a: #b", "\u00e9:", "a:\tb"} {
			checkIs(t, s, flow, false)
		}
		for _, s := range []string{"a:b", "a::b", "a :b", "a ::b", "a:b:c", "a:-", "a:#b", "a:'", "a:\"b", "a:&b", "a:\u00a0b", "a:\u00e9", "12:30:45"} {
			checkIs(t, s, flow, true)
		}
	}
	for _, mark := range flowMarks {
		for _, s := range []string{"a:" + mark, "a:" + mark + "b", "a:b" + mark, "a ::" + mark + " b"} {
			checkIs(t, s, false, true)
			checkIs(t, s, true, false)
		}
	}
}

func TestIsNotes(t *testing.T) {
	for _, flow := range both {
		for _, s := range []string{"#", "# a", "#a", "a #", "a # b", "a #b", "a  #b", "a b #c", "a# #", "a\t#b"} {
			checkIs(t, s, flow, false)
		}
		for _, s := range []string{"a#", "a#b", "a# b", "a##", "-#", "a:#b", "a\u00a0#b", "\u00e9#", "a#b#c"} {
			checkIs(t, s, flow, true)
		}
	}
}

func TestIsBytesThatAreRuledOut(t *testing.T) {
	bad := []string{
		"\t", "\n", "\r", "\r\n",
		// Signs that are not printable.
		"\x00", "\x01", "\x07", "\x08", "\x0b", "\x0c", "\x0e", "\x1b", "\x1f", "\x7f", "\u0080", "\u0084", "\u0086", "\u009f", "\ufeff", "\ufffe", "\uffff",
		// Bytes that are no sign's.
		"\xff", "\xfe", "\x80", "\xbf", "\xc3", "\xe2\x82", "\xf0\x9f\x98", "\xc0\x80", "\xed\xa0\x80", "\xf4\x90\x80\x80",
	}
	for _, b := range bad {
		for _, flow := range both {
			for _, s := range []string{b, b + "a", "a" + b, "a" + b + "b", "a b" + b + "c d", "-" + b, "a: b" + b} {
				checkIs(t, s, flow, false)
			}
		}
	}
}

func TestIsOfEverySign(t *testing.T) {
	marks := strings.Join(allMarks, "")
	for sign := range 0x110000 {
		s, e := utf.Encode(sign)
		if e != api.OK || sign == ' ' {
			continue
		}
		fits := utf.Printable(sign) && sign != 9 && sign != 10 && sign != 13
		free := !strings.Contains(",[]{}", s)
		checkIs(t, "a"+s+"b", false, fits)
		checkIs(t, "a"+s+"b", true, fits && free)
		checkIs(t, s+"b", false, fits && !strings.Contains(marks, s))
		checkIs(t, "a"+s, false, fits && s != ":")
		if t.Failed() {
			t.Fatalf("at the sign %#x", sign)
		}
	}
}

func TestIsKnowsNoLimit(t *testing.T) {
	long := strings.Repeat("a b:c#d ", 1<<15)
	for _, flow := range both {
		checkIs(t, long+"e", flow, true)
		checkIs(t, long, flow, false)
		checkIs(t, long+"e:", flow, false)
		checkIs(t, long+"#", flow, false)
	}
}

// P6.1: Cut

func TestCut(t *testing.T) {
	for _, c := range []struct {
		s     string
		text  string // not in a flow
		place int
		too   string // in one
		there int
	}{
		// Nothing ends these.
		{"", "", 0, "", 0},
		{"a", "a", 1, "a", 1},
		{"a b", "a b", 3, "a b", 3},
		{" a", " a", 2, " a", 2},
		{"a  ", "a", 3, "a", 3},
		{"   ", "", 3, "", 3},
		{"a:b#c", "a:b#c", 5, "a:b#c", 5},
		{"- a", "- a", 3, "- a", 3},
		{"---", "---", 3, "---", 3},
		{"'a", "'a", 2, "'a", 2},
		{"\u00e9 \u20ac", "\u00e9 \u20ac", 6, "\u00e9 \u20ac", 6},
		{"a\xff\x00b", "a\xff\x00b", 4, "a\xff\x00b", 4},
		// Blanks alone are taken off, and at the end alone.
		{"a\t", "a\t", 2, "a\t", 2},
		{"a\n ", "a\n", 3, "a\n", 3},
		{"a\u00a0 ", "a\u00a0", 4, "a\u00a0", 4},
		{" a b : c", " a b", 5, " a b", 5},
		// A colon.
		{"a b: c", "a b", 3, "a b", 3},
		{"a:", "a", 1, "a", 1},
		{":", "", 0, "", 0},
		{": a", "", 0, "", 0},
		{"a   : b", "a", 4, "a", 4},
		{"   : b", "", 3, "", 3},
		{"  :", "", 2, "", 2},
		{"a::", "a:", 2, "a:", 2},
		{"a:b: c: d", "a:b", 3, "a:b", 3},
		{"a:\tb", "a:\tb", 4, "a:\tb", 4},
		{"a:\nb", "a:\nb", 4, "a:\nb", 4},
		{"\u00e9: a", "\u00e9", 2, "\u00e9", 2},
		{"\xff: a", "\xff", 1, "\xff", 1},
		// A note.
		{"a # b", "a", 2, "a", 2},
		{"a   #b", "a", 4, "a", 4},
		{"a #", "a", 2, "a", 2},
		{" #", "", 1, "", 1},
		{"   # a", "", 3, "", 3},
		{"#", "#", 1, "#", 1},
		{"# a", "# a", 3, "# a", 3},
		{"# #", "#", 2, "#", 2},
		{"a# b", "a# b", 4, "a# b", 4},
		{"a\t# b", "a\t# b", 5, "a\t# b", 5},
		{"a ## b", "a", 2, "a", 2},
		// The first of them ends it.
		{"a # b: c", "a", 2, "a", 2},
		{"a: b # c", "a", 1, "a", 1},
		{"a :# b", "a :# b", 6, "a :# b", 6},
		{"a:# #", "a:#", 4, "a:#", 4},
		// In a flow other signs end it, too.
		{"a, b", "a, b", 4, "a", 1},
		{"a  ,b", "a  ,b", 5, "a", 3},
		{",", ",", 1, "", 0},
		{"] a", "] a", 3, "", 0},
		{"  }", "  }", 3, "", 2},
		{"a:,", "a:,", 3, "a", 1},
		{"a:[b", "a:[b", 4, "a", 1},
		{"a :]", "a :]", 4, "a", 2},
		{"a:b}", "a:b}", 4, "a:b", 3},
		{"a, b: c", "a, b", 4, "a", 1},
		{"a: b, c", "a", 1, "a", 1},
		{"a # b]", "a", 2, "a", 2},
		{"a] # b", "a]", 3, "a", 1},
		{"a[0]: b", "a[0]", 4, "a", 1},
		{"\u00e9\u20ac, b", "\u00e9\u20ac, b", 8, "\u00e9\u20ac", 5},
	} {
		checkCut(t, c.s, false, c.text, c.place)
		checkCut(t, c.s, true, c.too, c.there)
	}
}

func TestCutAtEveryByte(t *testing.T) {
	for n := range 256 {
		b := string([]byte{byte(n)})
		for _, c := range []struct {
			s     string
			ends  bool // also where no flow is
			place int
		}{
			{"a" + b + "c", false, 0},
			{"a:" + b + "c", b == " ", 1},
			{"a" + b + "#c", b == " ", 2},
		} {
			for _, flow := range both {
				switch {
				case c.ends:
					checkCut(t, c.s, flow, "a", c.place)
				case flow && strings.Contains(",[]{}", b):
					checkCut(t, c.s, flow, "a", 1)
				default:
					checkCut(t, c.s, flow, c.s, len(c.s))
				}
			}
		}
	}
}

func TestCutKnowsNoLimit(t *testing.T) {
	long := strings.Repeat("a b:c#d ", 1<<15) + "e"
	blanks := strings.Repeat(" ", 1<<17)
	for _, flow := range both {
		checkCut(t, long, flow, long, len(long))
		checkCut(t, long+blanks, flow, long, len(long)+len(blanks))
		checkCut(t, long+blanks+"# f", flow, long, len(long)+len(blanks))
		checkCut(t, long+blanks+": f", flow, long, len(long)+len(blanks))
	}
}

// P6.1 and P6.2 over all short texts

func TestShortTextsOfManySigns(t *testing.T) {
	shortTexts([]string{" ", ":", "#", "-", ",", "}", "a", "\u00e9", "\t", "'", "0", "~"}, 4, func(s string) { agree(t, s) })
}

func TestLongerTextsOfFewSigns(t *testing.T) {
	shortTexts([]string{" ", ":", "#", "-", "[", "a"}, 6, func(s string) { agree(t, s) })
}

func TestDrawnTexts(t *testing.T) {
	draw := rand.New(rand.NewSource(6))
	for range 100000 {
		agree(t, drawnText(draw))
	}
}

// P6.2

func TestNumber(t *testing.T) {
	for _, c := range []struct {
		s string
		n int
	}{
		{"0", 0},
		{"1", 1},
		{"7", 7},
		{"9", 9},
		{"-1", -1},
		{"-5", -5},
		{"-9", -9},
		{"10", 10},
		{"100", 100},
		{"-10", -10},
		{"1234567890", 1234567890},
		{"999999999999999999", 999999999999999999},
		{"1000000000000000000", 1000000000000000000},
		{"9223372036854775806", math.MaxInt - 1},
		{"9223372036854775807", math.MaxInt},
		{"-9223372036854775807", math.MinInt + 1},
		{"-9223372036854775808", math.MinInt},
	} {
		checkNumber(t, c.s, c.n, true)
	}
}

func TestNoNumber(t *testing.T) {
	for _, s := range []string{
		"", "-", "+", "--", "---", "a", "~", "null", "true", "\xff",
		"-0", "00", "000", "-00", "01", "007", "-01", "-007", "+0", "+1", "+-1", "-+1", "--1", "1-", "1-1",
		" 1", "1 ", " 1 ", "- 1", "1 2", "-1 ", "1\n", "\t1", "1\x00",
		"1.0", "1.", ".1", "1e3", "1E3", "1_000", "1,000", "0x10", "0b1", "0o7", "0_0", "1a", "a1", "1:", "#1", "inf",
		"\u0661", "\uff11", "\u22121", "1\u00e9",
		"9223372036854775808", "9223372036854775809", "-9223372036854775809", "-9223372036854775810",
		"10000000000000000000", "18446744073709551615", "18446744073709551616", "18446744073709551617",
		"-18446744073709551616", "-18446744073709551615", "99999999999999999999", "36893488147419103232",
	} {
		checkNumber(t, s, 0, false)
	}
}

func TestNumberOfManyDigits(t *testing.T) {
	for _, digit := range []string{"0", "1", "9"} {
		for long := 20; long <= 1<<17; long *= 2 {
			many := strings.Repeat(digit, long)
			checkNumber(t, many, 0, false)
			checkNumber(t, "-"+many, 0, false)
			checkNumber(t, many+"a", 0, false)
			checkNumber(t, many+"5", 0, false)
		}
	}
}

func TestNumberOfEveryByte(t *testing.T) {
	for n := range 256 {
		b := string([]byte{byte(n)})
		if n < '0' || n > '9' {
			checkNumber(t, b, 0, false)
			checkNumber(t, "1"+b, 0, false)
			checkNumber(t, "1"+b+"1", 0, false)
			checkNumber(t, "-"+b+"1", 0, false)
			continue
		}
		digit := n - '0'
		checkNumber(t, b, digit, true)
		checkNumber(t, "1"+b, 10+digit, true)
		checkNumber(t, "-1"+b+"1", -101-10*digit, true)
		if digit > 0 {
			checkNumber(t, "-"+b, -digit, true)
			checkNumber(t, b+"0", 10*digit, true)
		}
	}
}

func TestNumberOfShortTexts(t *testing.T) {
	shortTexts([]string{"-", "+", "0", "1", "9", " ", "_", "."}, 5, func(s string) { agree(t, s) })
}

func TestNumberAtTheEndsOfInts(t *testing.T) {
	for _, begin := range []string{"922337203685477580", "-922337203685477580", "1844674407370955161", "-1844674407370955161"} {
		for n := range 200 {
			agree(t, begin+fmt.Sprint(n))
		}
	}
	for _, end := range []int{math.MaxInt, math.MinInt} {
		for n := int64(-1000); n <= 1000; n++ {
			near := new(big.Int).Add(big.NewInt(int64(end)), big.NewInt(n))
			agree(t, near.String())
		}
	}
}

func TestText(t *testing.T) {
	for _, c := range []struct {
		n    int
		want string
	}{
		{0, "0"},
		{7, "7"},
		{-5, "-5"},
		{10, "10"},
		{-100, "-100"},
		{math.MaxInt, "9223372036854775807"},
		{math.MinInt, "-9223372036854775808"},
	} {
		if got := plain.Text(c.n); got != c.want {
			t.Errorf("Text(%d): %q", c.n, got)
		}
	}
	for _, n := range edgeNumbers() {
		if got, want := plain.Text(n), big.NewInt(int64(n)).String(); got != want {
			t.Errorf("Text(%d): %q", n, got)
		}
	}
}

func TestResolve(t *testing.T) {
	for kind, list := range map[int][]string{
		api.Null: {"", "~", "null"},
		api.Bool: {"true", "false"},
		api.Int:  {"0", "7", "-1", "42", "9223372036854775807", "-9223372036854775808"},
		api.Str: {
			"Null", "NULL", "nULL", "nulL", "True", "TRUE", "tRUE", "False", "FALSE", "falsE",
			"~~", "~ ", " ~", " null", "null ", "nul", "nulll", " true", "true ", "tru", "false.", "yes", "no", "on", "off", "y", "n", "nil", "none",
			"a", "a b", "-", "---", "-0", "00", "007", "+1", "1.0", "1e3", "0x1", "- 1", " 1", "1 ", ".inf", ".nan",
			"9223372036854775808", "-9223372036854775809", "99999999999999999999999",
			// It asks for no more than the text: what is not plain is a Str, too.
			" ", "a: b", "[]", "'null'", "# a", "\t", "\n", "\xff", "\x00", "~\x00",
		},
	} {
		for _, s := range list {
			if got := plain.Resolve(s); got != kind {
				t.Errorf("Resolve(%q): %d, not %d", s, got, kind)
			}
		}
	}
}

// P6.3

// cutWhole asks that a plain text is cut whole, whatever ends it.
func cutWhole(t *testing.T, s string, flow bool) {
	t.Helper()
	checkCut(t, s, flow, s, len(s))
	checkCut(t, s+":", flow, s, len(s))
	checkCut(t, s+": b", flow, s, len(s))
	checkCut(t, s+" # b", flow, s, len(s)+1)
	checkCut(t, s+"  ", flow, s, len(s)+2)
	if flow {
		checkCut(t, s+", b", flow, s, len(s))
		checkCut(t, s+" ]", flow, s, len(s)+1)
		checkCut(t, s+":{", flow, s, len(s))
	}
}

func TestPlainTextsAreCutWhole(t *testing.T) {
	count := 0
	try := func(s string) {
		for _, flow := range both {
			if plain.Is(s, flow) {
				count++
				cutWhole(t, s, flow)
			}
		}
	}
	shortTexts([]string{" ", ":", "#", "-", ",", "a", "\u00e9"}, 6, try)
	draw := rand.New(rand.NewSource(63))
	for range 100000 {
		try(drawnText(draw))
	}
	if count < 50000 {
		t.Errorf("only %d of them are plain", count)
	}
}

func TestPlainInAFlowIsPlainOutsideToo(t *testing.T) {
	try := func(s string) {
		if plain.Is(s, true) && !plain.Is(s, false) {
			t.Errorf("%q", s)
		}
	}
	shortTexts([]string{" ", ":", "#", "-", "{", "a"}, 6, try)
	draw := rand.New(rand.NewSource(64))
	for range 100000 {
		try(drawnText(draw))
	}
}

// P6.4

func TestNumbersTextIsItsNumbers(t *testing.T) {
	list := edgeNumbers()
	draw := rand.New(rand.NewSource(65))
	for range 100000 {
		list = append(list, drawnNumber(draw))
	}
	for _, n := range list {
		s := plain.Text(n)
		checkNumber(t, s, n, true)
		if kind := plain.Resolve(s); kind != api.Int {
			t.Errorf("Resolve(%q): %d", s, kind)
		}
		for _, flow := range both {
			checkIs(t, s, flow, true)
			checkCut(t, s, flow, s, len(s))
		}
	}
}

func TestEachNumberHasOneText(t *testing.T) {
	shortTexts([]string{"-", "+", "0", "1", "5", "9"}, 6, func(s string) {
		if n, ok := plain.Number(s); ok && plain.Text(n) != s {
			t.Errorf("%q is %d, whose text is %q", s, n, plain.Text(n))
		}
	})
}
