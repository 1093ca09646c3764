package flow_test

import (
	"math/rand"
	"regexp"
	"strings"
	"unicode/utf8"

	"grommet/api"
	"grommet/plain"
	"grommet/quote"
)

// The chapter's words a second time, as patterns over what is left of a text; the numbers are the document's. A fault ends all of it by a panic.
var (
	aliasRule  = regexp.MustCompile(`\A( *\*)([A-Za-z0-9_-]*)`)
	anchorRule = regexp.MustCompile(`\A( *&)([A-Za-z0-9_-]*)`)
	tagRule    = regexp.MustCompile(`\A( *!!)([A-Za-z0-9_-]*)`)
	beginRule  = regexp.MustCompile(`\A *([\[{])`)
	quoteRule  = regexp.MustCompile(`\A *['"]`)
	commaRule  = regexp.MustCompile(`\A *,`)
	colonRule  = regexp.MustCompile(`\A *:(?:\z|[ ,\[\]{}])`)
	behindRule = regexp.MustCompile(`\A(?:\z| )`)
	inFlowRule = regexp.MustCompile(`\A(?:\z|[ ,\[\]{}])`)
	nameRule   = regexp.MustCompile(`\A[A-Za-z0-9_-]{1,32}\z`)
	endRules   = map[string]*regexp.Regexp{"[": regexp.MustCompile(`\A *\]`), "{": regexp.MustCompile(`\A *\}`)}
	tags       = map[string]int{"null": 1, "bool": 2, "int": 3, "str": 4, "seq": 5, "map": 6}
)

func wantRead(s string, flow bool) (t api.Tree, n int, f api.Fault) {
	defer func() {
		if got := recover(); got != nil {
			t, n, f = api.Tree{}, 0, got.(api.Fault)
		}
	}()
	m := model{s: s}
	t, _ = m.value(flow, 0)
	return t, m.at, api.Fault{}
}

func wantWhole(s string) (api.Tree, api.Fault) {
	if len(s) > 65536 {
		return api.Tree{}, api.Fault{Why: 5}
	}
	t, n, f := wantRead(s, false)
	if f.Why != 0 {
		return api.Tree{}, f
	}
	for ; n < len(s); n++ {
		if s[n] != ' ' {
			return api.Tree{}, api.Fault{Why: 3, At: n}
		}
	}
	return t, api.Fault{}
}

// model is a text and the end of the last part that was read.
type model struct {
	s  string
	at int
}

// find is what a pattern finds in what is left.
func (m *model) find(rule *regexp.Regexp) []string {
	return rule.FindStringSubmatch(m.s[m.at:])
}

// take reads what a pattern finds, and tells whether it does.
func (m *model) take(rule *regexp.Regexp) bool {
	found := rule.FindString(m.s[m.at:])
	m.at += len(found)
	return found != ""
}

func (m *model) skipped() int {
	at := m.at
	for at < len(m.s) && m.s[at] == ' ' {
		at++
	}
	return at
}

// fail is the fault of what stands at a place, or is missing there.
func (m *model) fail(at int) {
	if at >= len(m.s) {
		panic(api.Fault{Why: 4, At: len(m.s)})
	}
	panic(api.Fault{Why: 3, At: at})
}

// named reads a sign and the name behind it, of which found has both.
func (m *model) named(found []string) string {
	m.at += len(found[1])
	switch name := found[2]; {
	case name == "":
		m.fail(m.at)
	case len(name) > 32:
		m.fail(m.at + 32)
	}
	m.at += len(found[2])
	return found[2]
}

// value also tells whether there was more than nothing.
func (m *model) value(flow bool, around int) (api.Tree, bool) {
	if found := m.find(aliasRule); found != nil {
		return api.Tree{Kind: 7, Anchor: m.named(found)}, true
	}
	anchor, tag, tagAt := "", "", 0
	for {
		if found := m.find(anchorRule); found != nil && anchor == "" {
			anchor = m.named(found)
		} else if found := m.find(tagRule); found != nil && tag == "" {
			m.at += len(found[1])
			tag, tagAt = found[2], m.at-2
			if tags[tag] == 0 {
				m.fail(m.at)
			}
			m.at += len(tag)
		} else {
			break
		}
		if !(behindRule.MatchString(m.s[m.at:]) || flow && inFlowRule.MatchString(m.s[m.at:])) {
			m.fail(m.at)
		}
	}
	t, isThere := m.tagged(flow, around, tag, tagAt)
	t.Anchor = anchor
	return t, isThere || anchor != "" || tag != ""
}

// tagged is the value behind properties, as its tag has it.
func (m *model) tagged(flow bool, around int, tag string, tagAt int) (api.Tree, bool) {
	if found := m.find(beginRule); found != nil {
		kind := map[string]int{"[": 5, "{": 6}[found[1]]
		t := api.Tree{Kind: kind, Kids: m.kids(found[1], len(found[0]), around)}
		if tag != "" && tags[tag] != kind {
			panic(api.Fault{Why: 12, At: tagAt})
		}
		return t, true
	}
	text, isQuoted := m.scalar(flow)
	kind := plain.Resolve(text)
	if isQuoted && tag == "" || tag == "str" {
		kind = 4
	}
	if tag != "" && tags[tag] != kind {
		panic(api.Fault{Why: 12, At: tagAt})
	}
	isThere := isQuoted || text != ""
	if kind == 1 {
		text = ""
	}
	return api.Tree{Kind: kind, Text: text}, isThere
}

func (m *model) kids(bracket string, long, around int) []api.Tree {
	if around >= 64 {
		panic(api.Fault{Why: 10, At: m.at + long - 1})
	}
	m.at += long
	var list []api.Tree
	for {
		if m.take(endRules[bracket]) {
			return list
		}
		if bracket == "{" {
			list = append(list, m.key())
		}
		t, isThere := m.value(true, around+1)
		if bracket == "[" && !isThere {
			m.fail(m.skipped())
		}
		list = append(list, t)
		if !m.take(commaRule) && m.find(endRules[bracket]) == nil {
			m.fail(m.skipped())
		}
	}
}

// key reads one, and its colon.
func (m *model) key() api.Tree {
	text, isQuoted := m.scalar(true)
	t := api.Tree{Kind: 4, Text: text}
	if !isQuoted {
		t.Kind = plain.Resolve(text)
	}
	if t.Kind == 1 {
		t.Text = ""
	}
	if !isQuoted && text == "" || m.find(colonRule) == nil {
		m.fail(m.skipped())
	}
	m.at = m.skipped() + 1
	return t
}

// scalar reads a quoted text, a plain one, or nothing, and tells whether it was quoted.
func (m *model) scalar(flow bool) (string, bool) {
	at := m.skipped()
	if m.find(quoteRule) != nil {
		text, n, f := quote.Read(m.s[at:])
		if f.Why != 0 {
			panic(api.Fault{Why: f.Why, At: at + f.At})
		}
		m.at = at + n
		return text, true
	}
	text, _ := plain.Cut(m.s[at:], flow)
	switch {
	case text == "":
		return "", false
	case !plain.Is(text, flow):
		panic(api.Fault{Why: 3, At: at})
	}
	m.at = at + len(text)
	return text, false
}

// wantRight asks one word of the chapter behind the other, each of the whole tree.
func wantRight(t api.Tree) bool {
	return countOf(t) <= 4096 && deepOf(t) <= 64 && every(t, func(t api.Tree) bool {
		isList := t.Kind == 5 || t.Kind == 6
		if t.Kind < 1 || t.Kind > 7 || len(t.Kids) > 0 && !isList || t.Kind == 6 && len(t.Kids)%2 != 0 {
			return false
		}
		if (t.Anchor != "" || t.Kind == 7) && !nameRule.MatchString(t.Anchor) {
			return false
		}
		for i := 0; t.Kind == 6 && i < len(t.Kids); i += 2 {
			if t.Kids[i].Kind > 4 || t.Kids[i].Anchor != "" {
				return false
			}
		}
		switch t.Kind {
		case 2:
			return t.Text == "true" || t.Text == "false"
		case 3:
			n, ok := plain.Number(t.Text)
			return ok && plain.Text(n) == t.Text
		case 4:
			return utf8.ValidString(t.Text)
		}
		return t.Text == ""
	})
}

func every(t api.Tree, holds func(api.Tree) bool) bool {
	if !holds(t) {
		return false
	}
	for _, kid := range t.Kids {
		if !every(kid, holds) {
			return false
		}
	}
	return true
}

func countOf(t api.Tree) int {
	count := 0
	every(t, func(api.Tree) bool { count++; return true })
	return count
}

func deepOf(t api.Tree) int {
	deep := 0
	for _, kid := range t.Kids {
		deep = max(deep, deepOf(kid))
	}
	if t.Kind == 5 || t.Kind == 6 {
		deep++
	}
	return deep
}

func wantScalar(t api.Tree, flow bool) string {
	switch t.Kind {
	case 1:
		return "null"
	case 2, 3:
		return t.Text
	case 4:
		if plain.Is(t.Text, flow) && plain.Resolve(t.Text) == 4 {
			return t.Text
		}
		if quoted, e := quote.Double(t.Text); e == 0 {
			return quoted
		}
	}
	return ""
}

func wantWrite(t api.Tree) (string, api.Errno) {
	if !wantRight(t) {
		return "", 1
	}
	return wantText(t), 0
}

func wantText(t api.Tree) string {
	ahead := ""
	if t.Anchor != "" {
		ahead = "&" + t.Anchor + " "
	}
	var parts []string
	switch t.Kind {
	case 5:
		for _, kid := range t.Kids {
			parts = append(parts, wantText(kid))
		}
		return ahead + "[" + strings.Join(parts, ", ") + "]"
	case 6:
		for i := 0; i < len(t.Kids); i += 2 {
			parts = append(parts, wantText(t.Kids[i])+": "+wantText(t.Kids[i+1]))
		}
		return ahead + "{" + strings.Join(parts, ", ") + "}"
	case 7:
		return "*" + t.Anchor
	}
	return ahead + wantScalar(t, true)
}

// shortTexts hands on all texts of up to long of the parts.
func shortTexts(parts []string, long int, try func(string)) {
	last := []string{""}
	try("")
	for range long {
		var next []string
		for _, s := range last {
			for _, part := range parts {
				try(s + part)
				next = append(next, s+part)
			}
		}
		last = next
	}
}

// one is any of a list.
func one(draw *rand.Rand, list ...string) string {
	return list[draw.Intn(len(list))]
}

// drawnText is one of parts that values are made of, and of some that they are not.
func drawnText(draw *rand.Rand) string {
	var s strings.Builder
	for range draw.Intn(14) {
		s.WriteString(one(draw,
			"[", "[", "[", "]", "]", "]", "{", "{", "}", "}", ",", ", ", ",", ": ", ": ", ":", " ", " ", "  ",
			"a", "b c", "a: ", "b: ", "'d': ", `"e": `, "1", "-5", "~", "null", "true", "false", "007", "-", "---", "- ", `"x"`, "'y'", "''", `""`, `"5"`, "'true'", "'~'",
			"&", "*", "!", "!!", "&a ", "&b", "*a", "*b ", "!!null ", "!!bool ", "!!int ", "!!str ", "!!seq ", "!!map ", "!!str", "!!seq", "!!no ",
			"#", " #", "'", `"`, `\n`, "\\", "|", ">", "?", "%", "@", "\x60", "\u00e9", "\u20ac", "\t", "\n", "\xff", "\ufeff", "\x00"))
	}
	return s.String()
}

// drawnStr is a Str's Text: of what quotes are needed for, and of what they are not.
func drawnStr(draw *rand.Rand) string {
	if draw.Intn(3) == 0 {
		return one(draw, "", "~", "null", "true", "false", "0", "7", "-5", "007", "-0", "Null", "yes", "-", "---", "--", "- a", "a:", "a: b", "a:b", "a #b", "a#b", " a", "a ", " ", "a, b", "a,", "[", "]", "{}", "a]", "&a", "*a", "!!str", "'", `"`, "it's", `\`, "|", ">", "#", ":", "?", "%", "@", "\x60", "a:,", "9223372036854775808")
	}
	var s strings.Builder
	for range 1 + draw.Intn(6) {
		s.WriteString(one(draw, "a", "b", "c", "word", "5", " ", ":", ",", "[", "}", "#", "-", "'", `"`, `\`, "\t", "\n", "\r", "\x00", "\x1f", "\u0085", "\u00e9", "\u20ac", "\ufeff", "\uffff", "\U0001f600"))
	}
	return s.String()
}

func drawnName(draw *rand.Rand) string {
	letters := "abcXYZ019-_"
	long := 1 + draw.Intn(3)
	if draw.Intn(20) == 0 {
		long = 32
	}
	name := make([]byte, long)
	for i := range name {
		name[i] = letters[draw.Intn(len(letters))]
	}
	return string(name)
}

func drawnScalar(draw *rand.Rand) api.Tree {
	switch draw.Intn(6) {
	case 0:
		return api.Tree{Kind: api.Null}
	case 1:
		return api.Tree{Kind: api.Bool, Text: one(draw, "true", "false")}
	case 2:
		return api.Tree{Kind: api.Int, Text: plain.Text(int(draw.Uint64()) >> draw.Intn(64))}
	}
	return api.Tree{Kind: api.Str, Text: drawnStr(draw)}
}

// drawnTree is one that may be.
func drawnTree(draw *rand.Rand, room int) api.Tree {
	var t api.Tree
	switch kind := draw.Intn(8); {
	case kind == 0:
		return api.Tree{Kind: api.Alias, Anchor: drawnName(draw)}
	case kind < 4 || room == 0:
		t = drawnScalar(draw)
	case kind < 6:
		t.Kind = api.Seq
		for range draw.Intn(4) {
			t.Kids = append(t.Kids, drawnTree(draw, room-1))
		}
	default:
		t.Kind = api.Map
		for range draw.Intn(4) {
			t.Kids = append(t.Kids, drawnScalar(draw), drawnTree(draw, room-1))
		}
	}
	if draw.Intn(4) == 0 {
		t.Anchor = drawnName(draw)
	}
	return t
}

// blanks are some, or none.
func blanks(draw *rand.Rand) string {
	return strings.Repeat(" ", max(0, draw.Intn(5)-2))
}

// laid is any text that means a tree, without blanks around: what it is is known from the tree alone. A value that may be nothing is so at times.
func laid(draw *rand.Rand, t api.Tree, flow, mayBeNothing bool) string {
	if t.Kind == api.Alias {
		return "*" + t.Anchor
	}
	tag := ""
	if draw.Intn(3) == 0 {
		tag = "!!" + [...]string{"", "null", "bool", "int", "str", "seq", "map"}[t.Kind]
	}
	var text string
	switch t.Kind {
	case api.Seq:
		text = laidList(draw, t, "[", "]", func(i int) string { return laid(draw, t.Kids[i], true, false) }, 1)
	case api.Map:
		text = laidList(draw, t, "{", "}", func(i int) string { return laidEntry(draw, t.Kids[i], t.Kids[i+1]) }, 2)
	default:
		text = laidScalar(draw, t, flow, tag != "", mayBeNothing || tag != "" || t.Anchor != "")
	}
	ahead := []string{}
	if t.Anchor != "" {
		ahead = append(ahead, "&"+t.Anchor)
	}
	if tag != "" {
		ahead = append(ahead, tag)
	}
	draw.Shuffle(len(ahead), func(i, k int) { ahead[i], ahead[k] = ahead[k], ahead[i] })
	for i, word := range ahead {
		if i > 0 {
			ahead[i] = " " + blanks(draw) + word
		}
	}
	words := strings.Join(ahead, "")
	isMark := text != "" && strings.Contains("[{", text[:1])
	if words == "" || text == "" || flow && isMark && draw.Intn(2) == 0 {
		return words + text
	}
	return words + " " + blanks(draw) + text
}

func laidList(draw *rand.Rand, t api.Tree, begin, end string, part func(int) string, step int) string {
	var s strings.Builder
	s.WriteString(begin + blanks(draw))
	for i := 0; i < len(t.Kids); i += step {
		s.WriteString(part(i) + blanks(draw))
		if i+step < len(t.Kids) || draw.Intn(4) == 0 {
			s.WriteString("," + blanks(draw))
		}
	}
	s.WriteString(end)
	return s.String()
}

func laidEntry(draw *rand.Rand, key, t api.Tree) string {
	head := laidScalar(draw, key, true, false, false) + blanks(draw) + ":"
	value := laid(draw, t, true, true)
	if value == "" || strings.Contains("[{", value[:1]) && draw.Intn(2) == 0 {
		return head + blanks(draw) + value
	}
	return head + " " + blanks(draw) + value
}

// laidScalar is a scalar's text behind its tag, if it has one.
func laidScalar(draw *rand.Rand, t api.Tree, flow, isTagged, mayBeNothing bool) string {
	texts := []string{t.Text}
	if t.Kind == api.Null {
		texts = []string{"null", "~", ""}
	}
	var forms []string
	for _, text := range texts {
		if plain.Is(text, flow) && (plain.Resolve(text) == t.Kind || isTagged) {
			forms = append(forms, text)
		}
		if text == "" && mayBeNothing && (t.Kind == api.Null || isTagged) {
			forms = append(forms, "")
		}
		if t.Kind != api.Str && !isTagged {
			continue
		}
		if quoted, e := quote.Single(text); e == api.OK {
			forms = append(forms, quoted)
		}
		if quoted, e := quote.Double(text); e == api.OK {
			forms = append(forms, quoted)
		}
	}
	return one(draw, forms...)
}
