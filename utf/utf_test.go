package utf_test

import (
	"math"
	"slices"
	"strings"
	"testing"
	"unicode/utf8"

	"grommet/api"
	"grommet/utf"
)

// ends are the first and the last sign of each range that has its own count of bytes, and of those that are cut by the gap.
var ends = []struct {
	sign  int
	bytes string
}{
	{0, "\x00"},
	{0x41, "A"},
	{0x7F, "\x7f"},
	{0x80, "\xc2\x80"},
	{0xE9, "\xc3\xa9"},
	{0x7FF, "\xdf\xbf"},
	{0x800, "\xe0\xa0\x80"},
	{0x20AC, "\xe2\x82\xac"},
	{0xD7FF, "\xed\x9f\xbf"},
	{0xE000, "\xee\x80\x80"},
	{0xFEFF, "\xef\xbb\xbf"},
	{0xFFFD, "\xef\xbf\xbd"},
	{0xFFFF, "\xef\xbf\xbf"},
	{0x10000, "\xf0\x90\x80\x80"},
	{0x1F600, "\xf0\x9f\x98\x80"},
	{0x10FFFF, "\xf4\x8f\xbf\xbf"},
}

// noSigns are numbers that are none, at the ends of what is and far from them.
var noSigns = []int{-1, -2, -0x80, 0xD800, 0xDABC, 0xDFFF, 0x110000, 0x1FFFFF, 1 << 31, 1 << 32, 1<<32 + 'A', math.MinInt, math.MaxInt}

// wrong are bytes with which no sign begins.
var wrong = []struct{ name, bytes string }{
	{"the first byte that begins none", "\x80"},
	{"the last byte that only goes on", "\xbf"},
	{"a byte that goes on ahead of a sign", "\x80A"},
	{"a head of five bytes", "\xf8\x88\x80\x80\x80"},
	{"a head of six bytes", "\xfc\x84\x80\x80\x80\x80"},
	{"0xFE", "\xfe"},
	{"0xFF", "\xff"},
	{"two bytes, cut off", "\xc3"},
	{"three bytes, one of them", "\xe2"},
	{"three bytes, two of them", "\xe2\x82"},
	{"four bytes, one of them", "\xf0"},
	{"four bytes, two of them", "\xf0\x9f"},
	{"four bytes, three of them", "\xf0\x9f\x98"},
	{"two bytes, broken by a sign", "\xc3A"},
	{"three bytes, broken at the second", "\xe2A\xac"},
	{"three bytes, broken at the third", "\xe2\x82A"},
	{"three bytes, broken by a head", "\xe2\x82\xc3\xa9"},
	{"four bytes, broken at the second", "\xf0A\x98\x80"},
	{"four bytes, broken at the third", "\xf0\x9fA\x80"},
	{"four bytes, broken at the fourth", "\xf0\x9f\x98A"},
	{"0 in two bytes", "\xc0\x80"},
	{"0x7F in two bytes", "\xc1\xbf"},
	{"0 in three bytes", "\xe0\x80\x80"},
	{"0x7FF in three bytes", "\xe0\x9f\xbf"},
	{"0 in four bytes", "\xf0\x80\x80\x80"},
	{"0xFFFF in four bytes", "\xf0\x8f\xbf\xbf"},
	{"0xD800", "\xed\xa0\x80"},
	{"0xDFFF", "\xed\xbf\xbf"},
	{"0x110000", "\xf4\x90\x80\x80"},
	{"0x1FFFFF", "\xf7\xbf\xbf\xbf"},
}

func encode(t *testing.T, signs ...int) string {
	t.Helper()
	s, e := utf.Encode(signs...)
	if e != api.OK {
		t.Fatalf("Encode(%x): %v", signs, e)
	}
	return s
}

// everySign calls do with all signs, rising.
func everySign(do func(sign int)) {
	for sign := 0; sign <= 0x10FFFF; sign++ {
		if sign < 0xD800 || sign > 0xDFFF {
			do(sign)
		}
	}
}

// P1.1

func TestEncodeSigns(t *testing.T) {
	var all []int
	var want string
	for _, x := range ends {
		if s := encode(t, x.sign); s != x.bytes {
			t.Errorf("Encode(%#x) = % x, want % x", x.sign, s, x.bytes)
		}
		all = append(all, x.sign)
		want += x.bytes
	}
	if s := encode(t, all...); s != want {
		t.Errorf("all in a row: % x, want % x", s, want)
	}
	if s := encode(t); s != "" {
		t.Errorf("no sign: % x", s)
	}
	if s := encode(t, 0x41, 0x41); s != "AA" {
		t.Errorf("the same sign twice: % x", s)
	}
}

func TestEncodeRefusesWhatIsNoSign(t *testing.T) {
	for _, n := range noSigns {
		for _, signs := range [][]int{{n}, {n, 0x41}, {0x41, n}, {0x41, n, 0x42}, {n, n}} {
			if s, e := utf.Encode(signs...); s != "" || e != api.ErrUtf {
				t.Errorf("Encode(%x) = %q, %v", signs, s, e)
			}
		}
	}
}

func TestEncodeLeavesItsArguments(t *testing.T) {
	signs := []int{0x41, 0x20AC, 0x10FFFF}
	encode(t, signs...)
	if !slices.Equal(signs, []int{0x41, 0x20AC, 0x10FFFF}) {
		t.Errorf("written into: %x", signs)
	}
}

func TestFirstOfSigns(t *testing.T) {
	for _, x := range ends {
		for _, more := range []string{"", "A", "\x80", "\xff", "\u20ac"} {
			if sign, long := utf.First(x.bytes + more); sign != x.sign || long != len(x.bytes) {
				t.Errorf("First(% x) = %#x, %d", x.bytes+more, sign, long)
			}
		}
	}
}

func TestFirstOfNothing(t *testing.T) {
	if sign, long := utf.First(""); sign != -1 || long != 0 {
		t.Errorf("First of an empty text = %d, %d", sign, long)
	}
}

func TestFirstOfWrongBytes(t *testing.T) {
	for _, x := range wrong {
		for _, more := range []string{"", "A", "\u20ac"} {
			if sign, long := utf.First(x.bytes + more); sign != -1 || long != 1 {
				t.Errorf("%s: First(% x) = %#x, %d", x.name, x.bytes+more, sign, long)
			}
		}
	}
}

// The library's decoder has the same rule, so it tells what is right of bytes that nobody thought of.
func sameAsLibrary(t *testing.T, s string) {
	sign, long := utf.First(s)
	r, w := utf8.DecodeRuneInString(s)
	want := int(r)
	if r == utf8.RuneError && w <= 1 {
		want = -1
	}
	if sign != want || long != w {
		t.Fatalf("First(% x) = %#x, %d; want %#x, %d", s, sign, long, want, w)
	}
}

func TestFirstOfAllBytes(t *testing.T) {
	for n := range 1 << 24 {
		three := [3]byte{byte(n >> 16), byte(n >> 8), byte(n)}
		sameAsLibrary(t, string(three[:]))
		if n < 1<<16 {
			sameAsLibrary(t, string(three[1:]))
		}
		if n < 1<<8 {
			sameAsLibrary(t, string(three[2:]))
		}
	}
	// Of four bytes the first two tell all that may be wrong but for the form of those behind.
	tails := []byte{0x00, 0x7F, 0x80, 0x81, 0xBE, 0xBF, 0xC0, 0xF0, 0xFF}
	for n := range 1 << 16 {
		for _, c := range tails {
			for _, d := range tails {
				sameAsLibrary(t, string([]byte{byte(n >> 8), byte(n), c, d}))
			}
		}
	}
}

// P1.2

func TestDecodeSigns(t *testing.T) {
	signs, f := utf.Decode("A\u00e9\u20ac\U0001f600\x00\ufeff")
	if f != (api.Fault{}) || !slices.Equal(signs, []int{0x41, 0xE9, 0x20AC, 0x1F600, 0, 0xFEFF}) {
		t.Errorf("%x, %v", signs, f)
	}
	if signs, f := utf.Decode(""); len(signs) != 0 || f != (api.Fault{}) {
		t.Errorf("of an empty text: %x, %v", signs, f)
	}
}

func TestDecodeTellsWhereBytesAreWrong(t *testing.T) {
	for _, x := range wrong {
		for _, ahead := range []string{"", "A", "\x00", "\u00e9\u20ac", "\U0001f600A"} {
			want := api.Fault{Why: api.ErrUtf, At: len(ahead)}
			for _, more := range []string{"", "A", "\xff"} {
				if signs, f := utf.Decode(ahead + x.bytes + more); len(signs) != 0 || f != want {
					t.Errorf("%s: Decode(% x) = %x, %v", x.name, ahead+x.bytes+more, signs, f)
				}
			}
		}
	}
}

func TestDecodedIsTheCallers(t *testing.T) {
	const s = "ab"
	one, _ := utf.Decode(s)
	one[0] = 'x'
	if two, _ := utf.Decode(s); !slices.Equal(two, []int{'a', 'b'}) {
		t.Errorf("turned by its caller: %x", two)
	}
}

// printableRanges are all that is printable, by their first and last signs.
var printableRanges = [][2]int{{9, 10}, {13, 13}, {0x20, 0x7E}, {0x85, 0x85}, {0xA0, 0xD7FF}, {0xE000, 0xFEFE}, {0xFF00, 0xFFFD}, {0x10000, 0x10FFFF}}

func inPrintableRanges(n int) bool {
	return slices.ContainsFunc(printableRanges, func(r [2]int) bool { return r[0] <= n && n <= r[1] })
}

func TestPrintable(t *testing.T) {
	for n := -0x100; n <= 0x110100; n++ {
		if got := utf.Printable(n); got != inPrintableRanges(n) {
			t.Errorf("Printable(%#x) = %v", n, got)
		}
	}
	for _, n := range noSigns {
		if utf.Printable(n) {
			t.Errorf("%d is no sign, and printable", n)
		}
	}
}

func TestCheckPasses(t *testing.T) {
	for _, s := range []string{"", "a", "a: b\n", "\t\r\n", "\u0085\u00a0", "\ud7ff\ue000\ufefe\uff00\ufffd\U00010000\U0010ffff", strings.Repeat("\u20ac", 1000)} {
		if f := utf.Check(s); f != (api.Fault{}) {
			t.Errorf("Check(%q) = %v", s, f)
		}
	}
}

func TestCheckTellsWhereBytesAreWrong(t *testing.T) {
	for _, x := range wrong {
		for _, ahead := range []string{"", "A", "\u00e9\u20ac\n"} {
			if f := utf.Check(ahead + x.bytes + "\x00"); f != (api.Fault{Why: api.ErrUtf, At: len(ahead)}) {
				t.Errorf("%s: Check(% x) = %v", x.name, ahead+x.bytes, f)
			}
		}
	}
}

func TestCheckOfEverySign(t *testing.T) {
	everySign(func(sign int) {
		var want api.Fault
		if !inPrintableRanges(sign) {
			want = api.Fault{Why: api.ErrUtf, At: 4}
		}
		if f := utf.Check("a\u20ac" + encode(t, sign) + "z"); f != want {
			t.Errorf("Check with %#x = %v", sign, f)
		}
	})
}

func TestCheckTellsTheFirstPlace(t *testing.T) {
	for _, x := range []struct {
		s  string
		at int
	}{{"a\x00\xff", 1}, {"a\xff\x00", 1}, {"\ufeff", 0}, {"\u20ac\ufeff\x01", 3}, {"\x7f\x7f", 0}, {"\u0080", 0}, {"ok\ufffe", 2}} {
		if f := utf.Check(x.s); f != (api.Fault{Why: api.ErrUtf, At: x.at}) {
			t.Errorf("Check(%q) = %v", x.s, f)
		}
	}
}

func TestCount(t *testing.T) {
	for _, x := range []struct {
		s    string
		want int
	}{
		{"", 0}, {"a", 1}, {"\x00\x00", 2}, {"A\u00e9\u20ac\U0001f600", 4},
		{"\xff", 1}, {"\x80\x80", 2}, {"\xe2\x82", 2}, {"\xf0\x9f\x98", 3}, {"\xe2\x82A", 3},
		{"\xed\xa0\x80", 3}, {"\xc0\x80", 2}, {"\xf8\x88\x80\x80\x80", 5}, {"a\xff\u20acb\xc3", 5},
	} {
		if n := utf.Count(x.s); n != x.want {
			t.Errorf("Count(% x) = %d, want %d", x.s, n, x.want)
		}
	}
	for _, x := range wrong {
		if n := utf.Count(x.bytes); n != utf8.RuneCountInString(x.bytes) {
			t.Errorf("%s: Count(% x) = %d", x.name, x.bytes, n)
		}
	}
}

// P1.3

func TestEncodedIsDecoded(t *testing.T) {
	var all []int
	everySign(func(sign int) {
		signs, f := utf.Decode(encode(t, sign))
		if f != (api.Fault{}) || !slices.Equal(signs, []int{sign}) {
			t.Fatalf("%#x is decoded as %x, %v", sign, signs, f)
		}
		all = append(all, sign)
	})
	s := encode(t, all...)
	if signs, f := utf.Decode(s); f != (api.Fault{}) || !slices.Equal(signs, all) {
		t.Fatalf("all signs in a row are not decoded: %v", f)
	}
	if n := utf.Count(s); n != len(all) {
		t.Fatalf("Count of all signs = %d, want %d", n, len(all))
	}
}

func TestDecodedIsEncoded(t *testing.T) {
	// All texts of four bytes that these make: heads and rests of each kind, right and wrong.
	parts := []byte{0x00, 0x41, 0x7F, 0x80, 0x82, 0x8F, 0x90, 0x9F, 0xA0, 0xBF, 0xC0, 0xC1, 0xC2, 0xDF, 0xE0, 0xE2, 0xED, 0xEF, 0xF0, 0xF4, 0xF5, 0xFF}
	decoded := 0
	for _, a := range parts {
		for _, b := range parts {
			for _, c := range parts {
				for _, d := range parts {
					s := string([]byte{a, b, c, d})
					signs, f := utf.Decode(s)
					if (f == api.Fault{}) != utf8.ValidString(s) {
						t.Fatalf("Decode(% x): %v", s, f)
					}
					if f != (api.Fault{}) {
						continue
					}
					decoded++
					if back := encode(t, signs...); back != s {
						t.Fatalf("% x is decoded as %x, and encoded as % x", s, signs, back)
					}
				}
			}
		}
	}
	if decoded == 0 {
		t.Fatal("no text among them")
	}
}

// P1.4

// Only signs of fewer than four bytes could lie within another one.
func TestNoSignWithinAnother(t *testing.T) {
	short := map[string]int{}
	everySign(func(sign int) {
		if s := encode(t, sign); len(s) < 4 {
			short[s] = sign
		}
	})
	everySign(func(sign int) {
		s := encode(t, sign)
		for i := range len(s) {
			for j := i + 1; j <= len(s); j++ {
				if j-i == len(s) {
					continue
				}
				if other, ok := short[s[i:j]]; ok {
					t.Fatalf("%#x lies within % x, the bytes of %#x", other, s, sign)
				}
				if other, _ := utf.First(s[i:j]); other != -1 {
					t.Fatalf("%#x is read from within % x, the bytes of %#x", other, s, sign)
				}
			}
		}
	})
}

func TestSignsHaveTheirOwnBytes(t *testing.T) {
	last := ""
	everySign(func(sign int) {
		s := encode(t, sign)
		// Rising signs have rising bytes, so that no two have the same.
		if sign > 0 && s <= last {
			t.Fatalf("% x of %#x is not above % x", s, sign, last)
		}
		last = s
	})
}
