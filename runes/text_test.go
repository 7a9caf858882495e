package runes_test

import (
	"fmt"
	"math/rand"
	"regexp"
	"slices"
	"strconv"
	"strings"
	"testing"
	"unicode/utf8"

	"quoin/api"
	"quoin/runes"
)

// U4, U8

// written is a rune as a set's text has it.
func written(r rune) string {
	switch {
	case r == 10:
		return `\n`
	case r == 9:
		return `\t`
	case r == 13:
		return `\r`
	case r >= 33 && r <= 126 && strings.ContainsRune(`[]-^\"`, r):
		return `\` + string(r)
	case r >= 33 && r <= 126:
		return string(r)
	}
	return fmt.Sprintf(`\u{%x}`, r)
}

func TestTextOfEveryRune(t *testing.T) {
	for r := range rune(runeCount) {
		s, e := runes.Text(set(span(r, r)))
		if s != "["+written(r)+"]" || e != api.OK {
			t.Fatal(r, s, e)
		}
	}
}

func TestText(t *testing.T) {
	for _, s := range append(samples(), dots(0, 2048)) {
		meant := "["
		for _, x := range s {
			meant += written(x.Lo)
			if x.Lo != x.Hi {
				meant += "-" + written(x.Hi)
			}
		}
		meant += "]"
		got, e := runes.Text(s)
		if got != meant || e != api.OK {
			t.Error(got, e, meant)
		}
		back, f := runes.Parse(got)
		if !same(back, s) || f != (api.Fault{}) {
			t.Error(got, back, f)
		}
	}
	s, e := runes.Of(span(97, 99), span(45, 45))
	if e != api.OK {
		t.Fatal(e)
	}
	if got, e := runes.Text(s); got != `[\-a-c]` || e != api.OK {
		t.Error(got, e)
	}
}

// The reading by the letter: what forms there are is told by regular expressions, and a byte can stand at a place just if some right text begins so.

const oneRune = `(?:[^\x00-\x20\[\]\-\\"\x7f]|\\[\[\]\-^\\"ntr]|\\u\{[0-9a-fA-F]{1,6}\})`

var (
	rightForm = regexp.MustCompile(`^\[(?: |` + oneRune + `(?:-` + oneRune + `)?)*\]$`)
	oneRange  = regexp.MustCompile(`^(` + oneRune + `)(?:-(` + oneRune + `))?`)
	loneRune  = regexp.MustCompile(`^` + oneRune)
	closings  = []string{"", "[]", "]", "a]", "n]", "{0}]", "0}]", "}]"}
)

// isRight tells whether s has the form of a set's text.
func isRight(s string) bool {
	if strings.HasPrefix(s, "[^") { // there it is no rune
		s = "[" + s[2:]
	}
	return utf8.ValidString(s) && rightForm.MatchString(s)
}

// canBegin tells whether some right text begins with s.
func canBegin(s string) bool {
	return slices.ContainsFunc(closings, func(c string) bool { return isRight(s + c) })
}

// valueOf is the number that a rune's text has.
func valueOf(s string) int {
	switch {
	case strings.HasPrefix(s, `\u{`):
		n, _ := strconv.ParseInt(s[3:len(s)-1], 16, 64)
		return int(n)
	case s == `\n`:
		return 10
	case s == `\t`:
		return 9
	case s == `\r`:
		return 13
	case s[0] == '\\':
		return int(s[1])
	}
	r, _ := utf8.DecodeRuneInString(s)
	return int(r)
}

// reading is what From is meant to tell of text from its byte 0 on, but for too many ranges: the ranges, whether the set is all but these, where it ends.
func reading(text string) (l []api.Range, not bool, end int, f api.Fault) {
	form, closed := formOf(text)
	at := 1
	if strings.HasPrefix(text, "[^") {
		at, not = 2, true
	}
	for at < form {
		if text[at] == ' ' {
			at++
			continue
		}
		x, size, f := rangeOf(text[at:form], at)
		if f != (api.Fault{}) {
			return nil, false, 0, f
		}
		if size == 0 {
			break
		}
		l = append(l, x)
		at += size
	}
	if !closed {
		return nil, false, 0, api.Fault{Why: api.ErrForm, At: form}
	}
	return l, not, form, api.Fault{}
}

// formOf is how far text has the form of a set, and whether it is closed there.
func formOf(text string) (end int, closed bool) {
	for end < len(text) {
		_, size := utf8.DecodeRuneInString(text[end:])
		if !canBegin(text[:end+size]) {
			return end, false
		}
		end += size
		if isRight(text[:end]) {
			return end, true
		}
	}
	return end, false
}

// rangeOf is the range with which s, which stands at a byte of a text, begins, how many bytes it has, and the fault of its numbers.
func rangeOf(s string, at int) (x api.Range, size int, f api.Fault) {
	m := oneRange.FindStringSubmatch(s)
	if m == nil {
		return x, 0, f
	}
	lo := valueOf(m[1])
	hi := lo
	if lo > 0x10FFFF {
		return x, 0, api.Fault{Why: api.ErrRune, At: at}
	}
	if m[2] != "" {
		hi = valueOf(m[2])
	}
	if hi > 0x10FFFF {
		return x, 0, api.Fault{Why: api.ErrRune, At: at + len(m[1]) + 1}
	}
	if lo > hi {
		return x, 0, api.Fault{Why: api.ErrArg, At: at}
	}
	return span(rune(lo), rune(hi)), len(m[0]), f
}

// checkReading holds Parse and From of a text against the words.
func checkReading(t *testing.T, text string) {
	t.Helper()
	l, not, end, f := reading(text)
	s, to, g := runes.From(text, 0)
	if f != g || to != end || !hasJust(s, l, not, f) {
		t.Errorf("From %q: %x %d %v, want %x (not: %v) %d %v", text, s, to, g, l, not, end, f)
	}
	ahead := "[\xff"
	s, to, g = runes.From(ahead+text, len(ahead))
	if f != (api.Fault{}) {
		f.At += len(ahead)
	} else {
		end += len(ahead)
	}
	if f != g || to != end || !hasJust(s, l, not, f) {
		t.Errorf("From %q, 2: %x %d %v, want %x (not: %v) %d %v", ahead+text, s, to, g, l, not, end, f)
	}
	l, not, end, f = reading(text)
	if f == (api.Fault{}) && end < len(text) {
		f = api.Fault{Why: api.ErrMore, At: end}
	}
	s, g = runes.Parse(text)
	if f != g || !hasJust(s, l, not, f) {
		t.Errorf("Parse %q: %x %v, want %x (not: %v) %v", text, s, g, l, not, f)
	}
}

// hasJust tells whether s is the set of the ranges' runes, or of all others; none, if there is a fault.
func hasJust(s, l []api.Range, not bool, f api.Fault) bool {
	if f != (api.Fault{}) {
		return len(s) == 0
	}
	if !isSet(s) {
		return false
	}
	edges := []rune{0, 0x10FFFF}
	for _, x := range append(append([]api.Range{}, l...), s...) {
		edges = append(edges, max(x.Lo-1, 0), x.Lo, x.Hi, min(x.Hi+1, 0x10FFFF))
	}
	for _, r := range edges {
		in := false
		for _, x := range l {
			in = in || x.Lo <= r && r <= x.Hi
		}
		if runes.Has(s, r) == (in == not) {
			return false
		}
	}
	return true
}

func TestReading(t *testing.T) {
	for _, s := range []string{
		"", "[", "]", "[]", "[^]", "[^^]", "[a^]", "[^a^]", "[ ^]", "[^ ^]", "[ ]", "[  a  b  ]", "[^ a]", " []", "[a] ", "[a]]", "[][]",
		"[c a-b -]", "[c a-b \\-]", "[z-a]", "[z-a", "[a", "[a-", "[a-]", "[a-b", "[a-b-c]", "[a -b]", "[a- b]", "[-a]", "[--a]", "[a--]", "[a-\\-]", "[\\--a]", "[\\--/]",
		"[b-a\\q]", "[\\q b-a]", "[b-a b-a]", "[b-\x01]", "[b-a\x01]", "[c-d b-a]", "[a-a]", "[ab ba a-b]", "[b-ca-b]", "[a-cd-f]", "[x-za-c]",
		"[\"]", "[\\\"]", "[[]", "[\\[]", "[\\]]", "[\\^]", "[^\\^]", "[\\^a]", "[\\\\]", "[\\", "[\\]", "[\\n\\t\\r]", "[\\a]", "[\\x41]", "[\\N]", "[\\0]", "[\\ ]", "[\\'", "[\\/]",
		"[\\u]", "[\\u", "[\\u{", "[\\u{}]", "[\\u{0}]", "[\\u{0", "[\\u{000000}]", "[\\u{0000000}]", "[\\u{00000a}]", "[\\u{10ffff}]", "[\\u{10FFFF}]", "[\\u{110000}]", "[\\u{110000", "[\\u{1100000}]", "[\\u{ffffff}]", "[\\u{FFffFF}x\\q]",
		"[\\u{d800}-\\u{dfff}]", "[\\u{g}]", "[\\u{ 1}]", "[\\u{1 }]", "[\\u{-1}]", "[\\u{+1}]", "[\\u{1]", "[\\u41]", "[\\U{41}]", "[\\u(41)]", "[\\u{4\x111}]", "[\\u{4`1}]", "[\\u{4@1}]", "[\\u{4:1}]", "[\\u{4/1}]", "[\\u{4G1}]",
		"[\\u{110000}-a]", "[a-\\u{110000}]", "[\\u{110001}-\\u{110000}]", "[b-a-\\u{110000}]", "[b-a\\u{110000}]", "[\\u{110000}b-a]", "[\\u{110000}", "[\\u{110000}-", "[\\u{110000}-]",
		"[é]", "[é-ü]", "[ü-é]", "[\u20ac-\U0010ffff]", "[\ufffd]", "[\U0010ffff]", "[\ud7ff\ue000]", "[\u0080-\u00ff]", "[\u00a0]", "[\u2028]",
		"[\xc3]", "[\xc3", "[a\xff]", "[\xff-a]", "[a-\xff]", "[\xe2\x82]", "[\xed\xa0\x80]", "[\xf4\x90\x80\x80]", "[\xc0\x80]", "[\x80]", "[a]\xff", "\xff", "[\\\xc3\xa9]", "[\\\xff]", "[\\u\xff]", "[\\u{\xff}]",
		"[\x00]", "[\x1f]", "[\x09]", "[\n]", "[\r]", "[\x7f]", "[a\x7f]", "[!-~]", "[\x20-~]", "[!-\\u{7e}]", "[\\u{20}-~]", "[!#$%&'()*+,./:;<=>?@_`{|}~]",
	} {
		checkReading(t, s)
	}
}

func TestReadingOfEveryByte(t *testing.T) {
	for b := range 256 {
		for _, form := range []string{"%", "[%", "[%]", "[^%]", "[a%]", "[a-%]", "[a-b%]", "[ %]", "[\\%]", "[\\%", "[\\u%]", "[\\u{%}]", "[\\u{1%}]", "[\\u{10000%}]", "[\\u{100000%}]", "[a]%", "[%-\\u{10ffff}]"} {
			checkReading(t, strings.Replace(form, "%", string([]byte{byte(b)}), 1))
		}
	}
}

func TestReadingOfShortTexts(t *testing.T) {
	parts := []string{"]", "-", "^", " ", "a", "b", "\\", "n", "u{", "1", "}", "é", "\xc3"}
	var row func(s string, n int)
	row = func(s string, n int) {
		checkReading(t, s)
		if n == 0 {
			return
		}
		for _, p := range parts {
			row(s+p, n-1)
		}
	}
	row("[", 4)
	row("[^a", 2)
	row("", 1)
	row("a", 1)
}

func TestReadingOfRows(t *testing.T) {
	parts := []string{"]", "-", "-", "-", "^", " ", " ", "a", "b", "z", "Z", "é", "\u20ac", "\\n", "\\-", "\\]", "\\u{61}", "\\u{10ffff}", "\\u{110000}", "\\u{", "\\q", "\"", "\x01", "\xff", "0-9", "a-f", "f-a"}
	chance := rand.New(rand.NewSource(4))
	for range 20000 {
		s := "["
		for range chance.Intn(9) {
			s += parts[chance.Intn(len(parts))]
		}
		checkReading(t, s)
		checkReading(t, s+"]")
	}
}

func TestEveryRuneIsRead(t *testing.T) {
	for r := range rune(runeCount) {
		texts := []string{fmt.Sprintf(`[\u{%x}]`, r), fmt.Sprintf(`[\u{%06X}]`, r)}
		if utf8.ValidRune(r) && loneRune.MatchString(string(r)) && r != '^' {
			texts = append(texts, "["+string(r)+"]")
		}
		for _, s := range texts {
			if l, f := runes.Parse(s); f != (api.Fault{}) || !same(l, set(span(r, r))) {
				t.Fatal(r, s, l, f)
			}
		}
	}
}

func TestFromAtPlaces(t *testing.T) {
	text := "x[a-c]y[d"
	for _, at := range []int{-1 << 63, -2, -1, len(text) + 1, len(text) + 2, 1<<63 - 1} {
		if s, end, f := runes.From(text, at); len(s) != 0 || end != 0 || f != (api.Fault{Why: api.ErrArg}) {
			t.Error(at, s, end, f)
		}
	}
	if s, end, f := runes.From(text, 1); !same(s, set(span(97, 99))) || end != 6 || f != (api.Fault{}) {
		t.Error(s, end, f)
	}
	for at, meant := range map[int]int{0: 0, 2: 2, 6: 6, 7: 9, 9: 9} {
		if s, end, f := runes.From(text, at); len(s) != 0 || end != 0 || f != (api.Fault{Why: api.ErrForm, At: meant}) {
			t.Error(at, s, end, f)
		}
	}
	for _, at := range []int{-1, 1} {
		if s, end, f := runes.From("", at); len(s) != 0 || end != 0 || f != (api.Fault{Why: api.ErrArg}) {
			t.Error(at, s, end, f)
		}
	}
	if s, end, f := runes.From("", 0); len(s) != 0 || end != 0 || f != (api.Fault{Why: api.ErrForm}) {
		t.Error(s, end, f)
	}
}

// inText are ranges as a text, without what is around them.
func inText(l []api.Range) string {
	var b strings.Builder
	for _, x := range l {
		b.WriteString(written(x.Lo) + "-" + written(x.Hi) + " ")
	}
	return b.String()
}

func TestReadingOfManyRanges(t *testing.T) {
	check := func(text string, count int, why api.Errno) {
		t.Helper()
		s, f := runes.Parse(text)
		if len(s) != count || f != (api.Fault{Why: why}) {
			t.Error(len(s), f)
		}
		s, end, f := runes.From("ab"+text+"z", 2)
		at := 0
		if why != api.OK {
			at = 2
		}
		if len(s) != count || f != (api.Fault{Why: why, At: at}) || why == api.OK && end != len(text)+2 || why != api.OK && end != 0 {
			t.Error(len(s), end, f)
		}
	}
	check("["+inText(dots(0, 2048))+"]", 2048, api.OK)
	check("["+inText(dots(0, 2049))+"]", 0, api.ErrRanges)
	check("["+inText(dots(0, 5000))+inText(dots(1, 5000))+"]", 1, api.OK)
	check("[^"+inText(dots(0, 2048))+"]", 2048, api.OK)
	check("[^"+inText(dots(1, 2048))+"]", 0, api.ErrRanges)
	check("[^"+inText(append(dots(0, 2048), span(0x10FFFF, 0x10FFFF)))+"]", 2048, api.OK) // 2049 ranges, and 2048 without them
	many := "[" + inText(dots(0, 2049))
	for tail, meant := range map[string]api.Errno{"]x": api.ErrMore, "": api.ErrForm, "z-a]": api.ErrArg, "\\u{110000}]": api.ErrRune} {
		at := len(many)
		if meant == api.ErrMore {
			at++
		}
		if s, f := runes.Parse(many + tail); len(s) != 0 || f != (api.Fault{Why: meant, At: at}) {
			t.Error(tail, len(s), f)
		}
	}
}
