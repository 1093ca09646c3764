package path_test

import (
	"math"
	"math/rand"
	"slices"
	"strings"
	"testing"

	"grommet/api"
	"grommet/path"
)

// agreeFormat holds Format against the words written a second time, and asks what follows; it tells the error.
func agreeFormat(t *testing.T, l []path.Step) api.Errno {
	t.Helper()
	want, why := wantFormat(l)
	got, e := path.Format(l)
	if got != want || e != why {
		t.Fatalf("Format(%s): %.999q, %v, not %.999q, %v", shown(l), got, e, want, why)
	}
	if e == api.OK {
		checkParsedAgain(t, l, got)
	}
	return e
}

// checkFormat asks for a path's text.
func checkFormat(t *testing.T, l []path.Step, want string) {
	t.Helper()
	if got, e := path.Format(l); got != want || e != api.OK {
		t.Fatalf("Format(%s): %.999q, %v, not %.999q", shown(l), got, e, want)
	}
	agreeFormat(t, l)
}

// checkRefused asks for Format's error.
func checkRefused(t *testing.T, l []path.Step, why api.Errno) {
	t.Helper()
	if got, e := path.Format(l); got != "" || e != why {
		t.Fatalf("Format(%s): %.999q, %v, not %v", shown(l), got, e, why)
	}
	agreeFormat(t, l)
}

// P16.2: Format

func TestFormat(t *testing.T) {
	checkFormat(t, []path.Step{}, "")
	for _, x := range []struct {
		l    []path.Step
		want string
	}{
		{way("a"), "a"}, {way("a", "b"), "a.b"}, {way("a", "b", "c"), "a.b.c"}, {way(0), "[0]"}, {way(0, 0), "[0][0]"}, {way("a", 0), "a[0]"}, {way(0, "a"), "[0].a"}, {way("a", 1, "b", 2, 3, "c"), "a[1].b[2][3].c"},
		// Keys as they are.
		{way("azAZ09-_"), "azAZ09-_"}, {way("-"), "-"}, {way("_", "_"), "_._"}, {way("0"), "0"}, {way("007", "5"), "007.5"}, {way("null", "true", "-5"), "null.true.-5"}, {way(5, "5"), "[5].5"},
		// Any others in quotes.
		{way(""), `""`}, {way("", ""), `"".""`}, {way("a", "", 0), `a.""[0]`}, {way(0, ""), `[0].""`}, {way("x y"), `"x y"`}, {way(" "), `" "`}, {way("a "), `"a "`}, {way(" a"), `" a"`}, {way("."), `"."`}, {way("a.b"), `"a.b"`}, {way("[0]"), `"[0]"`}, {way("a[0]", 0), `"a[0]"[0]`}, {way(`"`), `"\""`}, {way(`"a"`, "b"), `"\"a\"".b`}, {way(`\`), `"\\"`}, {way("'"), `"'"`}, {way("a/b"), `"a/b"`}, {way("a:b"), `"a:b"`}, {way("@"), `"@"`}, {way("`"), "\"`\""}, {way("{"), `"{"`}, {way("a\n"), `"a\n"`}, {way("\t\r\n\x00"), `"\t\r\n\0"`}, {way("\x01\x7f"), `"\x01\x7f"`}, {way("\u00e9"), "\"\u00e9\""}, {way("a\u20acb", 1), "\"a\u20acb\"[1]"}, {way("\U0001f600"), "\"\U0001f600\""}, {way("\ufeff"), `"\ufeff"`}, {way("\u0660"), "\"\u0660\""},
		// Indexes.
		{way(9), "[9]"}, {way(10), "[10]"}, {way(100000), "[100000]"}, {way(999999), "[999999]"}, {way("a", 999999, "b"), "a[999999].b"},
	} {
		checkFormat(t, x.l, x.want)
	}
}

func TestSignsOfKeys(t *testing.T) {
	plain := "abcdefghijklmnopqrstuvwxyzABCDEFGHIJKLMNOPQRSTUVWXYZ0123456789-_"
	for n := range 0x300 {
		sign := string(rune(n))
		l := way("a"+sign, sign, sign+"b")
		got, e := path.Format(l)
		if isPlain := got == "a"+sign+"."+sign+"."+sign+"b"; isPlain != strings.Contains(plain, sign) || e != api.OK {
			t.Errorf("Format(%s): %q, %v", shown(l), got, e)
		}
		agreeFormat(t, l)
	}
}

func TestFieldsThatDoNotCount(t *testing.T) {
	long := strings.Repeat("a", 257)
	for _, x := range []struct {
		step path.Step
		want string
	}{
		// An index with a Key.
		{path.Step{Key: "a", Index: 5, At: true}, "[5]"}, {path.Step{Key: "x y", At: true}, "[0]"}, {path.Step{Key: long, Index: 1, At: true}, "[1]"}, {path.Step{Key: "\xff", Index: 1, At: true}, "[1]"}, {path.Step{Key: strings.Repeat("\xff", 1000), Index: 999999, At: true}, "[999999]"},
		// A key with an Index.
		{path.Step{Key: "a", Index: 5}, "a"}, {path.Step{Index: 5}, `""`}, {path.Step{Key: "a", Index: -1}, "a"}, {path.Step{Key: "x y", Index: 1000000}, `"x y"`}, {path.Step{Key: "a", Index: math.MaxInt}, "a"}, {path.Step{Key: "a", Index: math.MinInt}, "a"},
	} {
		checkFormat(t, []path.Step{x.step}, x.want)
		checkFormat(t, []path.Step{key("k"), x.step, index(7)}, "k"+map[bool]string{true: "", false: "."}[x.step.At]+x.want+"[7]")
	}
}

func TestFormatOfTooMuch(t *testing.T) {
	long, more := strings.Repeat("a", 256), strings.Repeat("a", 257)
	// Indexes.
	for _, n := range []int{-1, -2, -999999, 1000000, 1000001, math.MaxInt, math.MinInt, math.MaxInt32, 1 << 32, -1 << 32} {
		checkRefused(t, way(n), api.ErrMany)
		checkRefused(t, way("a", n, "b"), api.ErrMany)
	}
	// Keys.
	checkFormat(t, way(long), long)
	checkFormat(t, way("b", long, long), "b."+long+"."+long)
	checkRefused(t, way(more), api.ErrMany)
	checkRefused(t, way("b", more), api.ErrMany)
	checkRefused(t, way(strings.Repeat("a", 1<<20)), api.ErrMany)
	checkFormat(t, way(strings.Repeat(" ", 256)), `"`+strings.Repeat(" ", 256)+`"`)
	checkFormat(t, way(strings.Repeat("\x00", 256)), `"`+strings.Repeat(`\0`, 256)+`"`)
	checkFormat(t, way(strings.Repeat("\x01", 256)), `"`+strings.Repeat(`\x01`, 256)+`"`)
	checkRefused(t, way(strings.Repeat(" ", 257)), api.ErrMany)
	checkFormat(t, way(strings.Repeat("\u00e9", 128)), "\""+strings.Repeat("\u00e9", 128)+"\"")
	checkRefused(t, way(strings.Repeat("\u00e9", 128)+"a"), api.ErrMany)
	// Steps.
	for _, x := range []struct {
		step path.Step
		text string
	}{
		{key("a"), ".a"}, {index(0), "[0]"}, {key(""), `.""`}, {index(999999), "[999999]"}, {key(long), "." + long},
	} {
		for _, count := range []int{63, 64} {
			checkFormat(t, slices.Repeat([]path.Step{x.step}, count), strings.TrimPrefix(strings.Repeat(x.text, count), "."))
		}
		for _, count := range []int{65, 66, 100, 1000} {
			checkRefused(t, slices.Repeat([]path.Step{x.step}, count), api.ErrMany)
		}
	}
	// The greatest text there is.
	most := slices.Repeat(way(strings.Repeat("\x01", 256)), 64)
	checkFormat(t, most, `"`+strings.Repeat(`\x01`, 256)+`"`+strings.Repeat(`."`+strings.Repeat(`\x01`, 256)+`"`, 63))
}

func TestFormatOfKeysThatAreNoTexts(t *testing.T) {
	for _, wrong := range []string{"\xff", "a\xff", "\xffa", "\xc3", "\x80", "\xed\xa0\x80", "\xf0\x9f\x98", "\xc0\x80", "\xf4\x90\x80\x80", "x y\xff", strings.Repeat("\xff", 256)} {
		checkRefused(t, way(wrong), api.ErrUtf)
		checkRefused(t, way("a", 0, wrong), api.ErrUtf)
		checkRefused(t, way(wrong, "", 5), api.ErrUtf)
		checkRefused(t, slices.Repeat(way(wrong), 64), api.ErrUtf)
		// Whatever else is too much, it is told first.
		for _, other := range [][]path.Step{way(-1), way(1000000), way(strings.Repeat("a", 257)), slices.Repeat(way("a"), 64)} {
			checkRefused(t, append(way(wrong), other...), api.ErrMany)
			checkRefused(t, append(slices.Clone(other), way(wrong)...), api.ErrMany)
		}
	}
	checkRefused(t, way(strings.Repeat("\xff", 257)), api.ErrMany)
}

func TestFormatOfDrawnPaths(t *testing.T) {
	draw := rand.New(rand.NewSource(2))
	count := map[api.Errno]int{}
	for n := range 20000 {
		l := drawnPath(draw, one(draw, 3, 10, 64))
		if e := agreeFormat(t, l); e != api.OK {
			t.Fatalf("Format(%s): %v", shown(l), e)
		}
		if n%2 == 0 {
			count[agreeFormat(t, spoiltPath(draw, l))]++
		}
	}
	if count[api.OK] < 1000 || count[api.ErrMany] < 1000 || count[api.ErrUtf] < 300 {
		t.Error(count)
	}
}

// P16.2: Same

func checkSame(t *testing.T, a, b []path.Step, want bool) {
	t.Helper()
	if got := path.Same(a, b); got != want {
		t.Fatalf("Same(%s, %s): %v", shown(a), shown(b), got)
	}
	if got := path.Same(b, a); got != want {
		t.Fatalf("Same(%s, %s): %v", shown(b), shown(a), got)
	}
}

func TestSame(t *testing.T) {
	all := [][]path.Step{nil, way(""), way(0), way("a"), way("0"), way("[0]"), way(1), way("1"), way("a", "b"), way("b", "a"), way("a.b"), way("a", 0), way(0, "a"), way("a", ""), way("", "a"), way("a", "a"), way(0, 0), way(0, 0, 0), way("", ""), way("A"), way("a "), way("\u00e9"), way("e\u0301"), way(-1), way(1000000), way(math.MaxInt), way(math.MinInt), way("\xff"), way("\xfe"), way("\ufffd"), way(strings.Repeat("a", 257)), way(strings.Repeat("a", 258)), slices.Repeat(way("a"), 64), slices.Repeat(way("a"), 65), slices.Repeat(way(0), 1000)}
	for i, a := range all {
		for k, b := range all {
			checkSame(t, a, slices.Clone(b), i == k)
		}
	}
	checkSame(t, nil, []path.Step{}, true)
	// Fields that do not count.
	x := strings.Repeat("\xff", 257)
	for _, other := range []string{"", "a", "b", x} {
		checkSame(t, []path.Step{{Key: other, Index: 5, At: true}}, way(5), true)
		checkSame(t, []path.Step{{Key: other, Index: 5, At: true}}, []path.Step{{Key: "c", Index: 5, At: true}}, true)
		checkSame(t, []path.Step{{Key: other, Index: 5, At: true}}, way(6), false)
		checkSame(t, []path.Step{{Key: other, Index: 5, At: true}}, []path.Step{{Key: other, Index: 6, At: true}}, false)
		checkSame(t, []path.Step{{Key: other, Index: 5, At: true}}, []path.Step{{Key: other, Index: 5}}, false)
		checkSame(t, []path.Step{{Key: other, At: true}}, []path.Step{{Key: other}}, false)
	}
	for _, other := range []int{0, 1, -1, 1000000, math.MinInt} {
		checkSame(t, []path.Step{{Key: "a", Index: other}}, way("a"), true)
		checkSame(t, []path.Step{{Key: "a", Index: other}}, []path.Step{{Key: "a", Index: 7}}, true)
		checkSame(t, []path.Step{{Index: other}}, way(""), true)
		checkSame(t, []path.Step{{Key: "a", Index: other}}, []path.Step{{Key: "b", Index: other}}, false)
		checkSame(t, []path.Step{{Key: "a", Index: other}}, way(other), false)
	}
	checkSame(t, []path.Step{{Key: "a", Index: 3}, {Key: "z", Index: 2, At: true}, {Key: "b", Index: -9}}, way("a", 2, "b"), true)
	checkSame(t, []path.Step{{Key: "a", Index: 3}, {Key: "z", Index: 2, At: true}, {Key: "b", Index: -9}}, way("a", 2, "c"), false)
}

func TestSameOfDrawnPaths(t *testing.T) {
	draw := rand.New(rand.NewSource(3))
	count := map[bool]int{}
	for range 20000 {
		a := drawnPath(draw, 4)
		b := slices.Clone(a)
		if draw.Intn(2) == 0 {
			b = spoiltPath(draw, a)
		}
		for i := range b {
			if draw.Intn(3) == 0 && b[i].At {
				b[i].Key = drawnKey(draw)
			} else if draw.Intn(3) == 0 && !b[i].At {
				b[i].Index = draw.Intn(9) - 4
			}
		}
		if draw.Intn(4) == 0 {
			b = b[:draw.Intn(len(b)+1)]
		}
		count[told(a) == told(b)]++
		checkSame(t, a, b, told(a) == told(b))
		checkSame(t, b, b, true)
		// What is the same has the same text.
		x, e := path.Format(a)
		if y, e2 := path.Format(b); e == api.OK && e2 == api.OK && (x == y) != (told(a) == told(b)) {
			t.Fatalf("%s and %s: %q, %q", shown(a), shown(b), x, y)
		}
	}
	if count[true] < 1000 || count[false] < 1000 {
		t.Error(count)
	}
}

// P16.4

// checkParsedAgain asks of a path's text: it is parsed as the path.
func checkParsedAgain(t *testing.T, l []path.Step, text string) {
	t.Helper()
	again, f := path.Parse(text)
	if f != (api.Fault{}) || !path.Same(again, l) || told(again) != told(l) {
		t.Fatalf("Format(%s): %.999q, that is parsed as %s, %v", shown(l), text, shown(again), f)
	}
	for _, step := range again {
		if step.At && step.Key != "" || !step.At && step.Index != 0 {
			t.Fatalf("Parse(%.999q): %+v", text, step)
		}
	}
}

func TestWhatIsFormattedIsParsed(t *testing.T) {
	keys := []any{"", "a", "0", ".", "]", `"`, `\`, " ", "\n", "\u00e9", 0, 10, 999999}
	for _, a := range keys {
		for _, b := range keys {
			for _, c := range keys {
				if e := agreeFormat(t, way(a, b, c)); e != api.OK {
					t.Fatal(a, b, c, e)
				}
			}
		}
	}
	for n := range 0x110000 {
		if n%97 == 0 && (n < 0xd800 || n > 0xdfff) {
			agreeFormat(t, way(string(rune(n)), n%1000000))
		}
	}
	for n := range 2000 {
		agreeFormat(t, way(n, n*499))
	}
}
