package text_test

import (
	"math"
	"strings"
	"testing"

	"quoin/api"
	"quoin/text"
)

const hex = "0123456789abcdef"

// oneForm is the chapter's one form of a value.
func oneForm(v string) string {
	short := map[rune]string{10: `\n`, 9: `\t`, 13: `\r`, '"': `\"`, '\\': `\\`}
	q := `"`
	for _, p := range pieces(v) {
		b := v[p.at]
		switch {
		case p.ok && short[p.r] != "":
			q += short[p.r]
		case !p.ok || p.r < 32 || p.r == 127:
			q += `\x` + string(hex[b/16]) + string(hex[b%16])
		default:
			q += v[p.at : p.at+p.size]
		}
	}
	return q + `"`
}

// P1.4: the one form, of texts of any bytes.
func TestQuote(t *testing.T) {
	values := texts()
	for b := range 256 {
		values = append(values, string([]byte{byte(b)}))
	}
	for _, v := range values {
		if q, e := text.Quote(v); q != oneForm(v) || e != api.OK {
			t.Errorf("Quote(%q) = %s, %v, not %s", v, q, e, oneForm(v))
		}
	}
	for _, x := range []struct{ v, want string }{
		{"", `""`},
		{"a\x01\"\u00e9", "\"a\\x01\\\"\u00e9\""},
		{"\n\t\r\"\\'", `"\n\t\r\"\\'"`},
		{"\x00\x08\x0b\x1f\x7f", `"\x00\x08\x0b\x1f\x7f"`},
		{"\u0080\u009f\u00a0\ufffd\U0010ffff", "\"\u0080\u009f\u00a0\ufffd\U0010ffff\""},
		{"\xed\xa0\x80\xc3", `"\xed\xa0\x80\xc3"`},
	} {
		if q, e := text.Quote(x.v); q != x.want || e != api.OK {
			t.Errorf("Quote(%q) = %s, %v", x.v, q, e)
		}
	}
}

// P1.4: MaxQuote bytes, and one more.
func TestQuoteLong(t *testing.T) {
	for _, x := range []struct{ unit, more string }{{"a", "a"}, {"\n", "\n"}, {"\xff", "\xff"}, {"\u00e9", "a"}, {"\U0001f600", "\u00e9"}} {
		v := strings.Repeat(x.unit, api.MaxQuote/len(x.unit))
		q, e := text.Quote(v)
		if q != oneForm(v) || e != api.OK {
			t.Errorf("Quote of MaxQuote bytes of %q: %v", x.unit, e)
		}
		if back, e := text.Unquote(q); back != v || e != api.OK {
			t.Errorf("Unquote of MaxQuote bytes of %q: %v", x.unit, e)
		}
		if q, e := text.Quote(v + x.more); q != "" || e != api.ErrLong {
			t.Errorf("Quote of more than MaxQuote bytes of %q: %v", x.unit, e)
		}
		long := q[:len(q)-1] + oneForm(x.more)[1:]
		if back, e := text.Unquote(long); back != "" || e != api.ErrQuote {
			t.Errorf("Unquote of more than MaxQuote bytes of %q: %v", x.unit, e)
		}
		if back, n, f := text.Quoted("+"+long, 1); back != "" || n != 0 || f != (api.Fault{Why: api.ErrQuote, At: 1}) {
			t.Errorf("Quoted of more than MaxQuote bytes of %q: %d, %v", x.unit, n, f)
		}
	}
	// The last part may begin below MaxQuote and end above it.
	almost := strings.Repeat("a", api.MaxQuote-1)
	for tail, why := range map[string]api.Errno{`\u{7f}`: api.OK, `\u{e9}`: api.ErrQuote, "\u00e9": api.ErrQuote, `\xe9`: api.OK} {
		if _, e := text.Unquote(`"` + almost + tail + `"`); e != why {
			t.Errorf("MaxQuote - 1 bytes and %s: %v", tail, e)
		}
	}
}

// P1.4: all that a part may be.
func TestUnquote(t *testing.T) {
	for _, x := range []struct{ s, want string }{
		{`""`, ""}, {`" "`, " "}, {`"a"`, "a"}, {`"'/{}"`, "'/{}"},
		{`"\n\t\r\"\\"`, "\n\t\r\"\\"},
		{`"\x00\x0a\x41\xff\xc3\xa9"`, "\x00\x0aA\xff\u00e9"},
		{`"\u{0}\u{a}\u{41}\u{e9}\u{20ac}\u{1f600}\u{10ffff}"`, "\x00\nA\u00e9\u20ac\U0001f600\U0010ffff"},
		{`"\u{d7ff}\u{e000}\u{fffd}"`, "\ud7ff\ue000\ufffd"},
		{"\"\u0080\u00e9\ufffd\U0010ffff\"", "\u0080\u00e9\ufffd\U0010ffff"},
		{`"\\n\"a"`, `\n"a`},
	} {
		if v, e := text.Unquote(x.s); v != x.want || e != api.OK {
			t.Errorf("Unquote(%s) = %q, %v", x.s, v, e)
		}
	}
	for n := range 0x110000 {
		s := `"\u{` + number(n) + `}"`
		want, why := "", api.ErrQuote
		if isRune(n) {
			want, why = bytesOf(n), api.OK
		}
		if v, e := text.Unquote(s); v != want || e != why {
			t.Fatalf("Unquote(%s) = %q, %v", s, v, e)
		}
	}
}

func number(n int) string {
	s := hex[n%16 : n%16+1]
	for n /= 16; n > 0; n /= 16 {
		s = hex[n%16:n%16+1] + s
	}
	return s
}

// unquotable are texts that are no quoted text, and of which none is a beginning.
var unquotable = []string{
	"a", "'a'", `"`, `"a`, `"\`, `"\"`, `"\n`, `"\x`, `"\x4`, `"\x41`, `"\u`, `"\u{`, `"\u{4`, `"\u{41}`, " \"a\"",
	`"\a"`, `"\N"`, `"\0"`, `"\'"`, `"\ "`, `"\/"`, "\"\\\n\"", "\"\\\u00e9\"",
	`"\x"`, `"\x4"`, `"\x4g"`, `"\xg4"`, `"\xFF"`, `"\xfF"`, `"\X41"`, `"\x 1"`,
	`"\u"`, `"\u41"`, `"\u{}"`, `"\u{"`, `"\u{41"`, `"\u{ 41}"`, `"\u{41 }"`, `"\u{g}"`, `"\u{E9}"`, `"\u{0e9}"`, `"\u{00}"`, `"\u{000041}"`, `"\u{-1}"`, `"\U{41}"`, `"\u(41)"`, `"\u(41}"`, `"\u041}"`,
	`"\u{d800}"`, `"\u{dfff}"`, `"\u{110000}"`, `"\u{ffffff}"`, `"\u{1000000}"`, `"\u{10ffff0}"`, `"\u{0000041}"`,
	"\"\n\"", "\"\t\"", "\"\r\"", "\"\x00\"", "\"\x1f\"", "\"\x7f\"",
	"\"\x80\"", "\"\xff\"", "\"\xc3\"", "\"\xc0\x80\"", "\"\xed\xa0\x80\"", "\"\xf4\x90\x80\x80\"", "\"\xe2\x82\"",
}

// P1.4: what is no quoted text.
func TestUnquoteRefuses(t *testing.T) {
	for _, s := range append([]string{"", `"a"b`, `"a" `, `"a""`, `""""`, "\"a\"\xff"}, unquotable...) {
		if v, e := text.Unquote(s); v != "" || e != api.ErrQuote {
			t.Errorf("Unquote(%q) = %q, %v", s, v, e)
		}
	}
	for b := range 256 {
		c := string([]byte{byte(b)})
		plain := b >= 32 && b < 127 && c != `"` && c != `\`
		if v, e := text.Unquote(`"` + c + `"`); plain != (e == api.OK) || plain && v != c {
			t.Errorf("Unquote of the byte %d: %q, %v", b, v, e)
		}
		escape := strings.Contains(`ntr"\`, c)
		if v, e := text.Unquote(`"\` + c + `"`); escape != (e == api.OK) || escape != (len(v) == 1) {
			t.Errorf("Unquote of a backslash and the byte %d: %q, %v", b, v, e)
		}
		digit := strings.Contains(hex, c)
		for _, s := range []string{`"\x` + c + `0"`, `"\x0` + c + `"`, `"\u{` + c + `}"`} {
			if _, e := text.Unquote(s); digit != (e == api.OK) {
				t.Errorf("Unquote(%q): %v", s, e)
			}
		}
	}
}

// P1.4: a quoted text within another text.
func TestQuoted(t *testing.T) {
	for _, x := range []struct {
		s    string
		at   int
		want string
		end  int
	}{
		{`x"a"y`, 1, "a", 4}, {`""`, 0, "", 2}, {`"""b"`, 2, "b", 5}, {`"a""b"`, 0, "a", 3}, {`"a""b"`, 2, "", 4},
		{"\xff\"\\x41\u00e9\"\xff", 1, "A\u00e9", 9}, {`"\"a"`, 2, "a", 5}, {`"\u{e9}" "`, 0, "\u00e9", 8},
	} {
		if v, end, f := text.Quoted(x.s, x.at); v != x.want || end != x.end || f != (api.Fault{}) {
			t.Errorf("Quoted(%q, %d) = %q, %d, %v", x.s, x.at, v, end, f)
		}
	}
}

// P1.4: places without a byte, and without a quoted text.
func TestQuotedRefuses(t *testing.T) {
	for _, s := range []string{"", "a", `"a"`, `"`} {
		for _, at := range []int{-1, math.MinInt, len(s), len(s) + 1, math.MaxInt} {
			if v, end, f := text.Quoted(s, at); v != "" || end != 0 || f != (api.Fault{Why: api.ErrPlace, At: at}) {
				t.Errorf("Quoted(%q, %d) = %q, %d, %v", s, at, v, end, f)
			}
		}
	}
	for _, s := range unquotable {
		for _, ahead := range []string{"", "ab", `""`, "\xff"} {
			at := len(ahead)
			if v, end, f := text.Quoted(ahead+s, at); v != "" || end != 0 || f != (api.Fault{Why: api.ErrQuote, At: at}) {
				t.Errorf("Quoted(%q, %d) = %q, %d, %v", ahead+s, at, v, end, f)
			}
		}
	}
}

// P1.7: Unquote of Quote is the value, also where other text follows.
func TestUnquoteOfQuote(t *testing.T) {
	for _, v := range texts() {
		q, _ := text.Quote(v)
		if back, e := text.Unquote(q); back != v || e != api.OK {
			t.Errorf("Unquote(%s) = %q, %v, not %q", q, back, e, v)
		}
		if back, end, f := text.Quoted("\\"+q+`"\`, 1); back != v || end != 1+len(q) || f != (api.Fault{}) {
			t.Errorf("Quoted of %s = %q, %d, %v, not %q", q, back, end, f, v)
		}
	}
	for b, r := range everyRune {
		q, _ := text.Quote(b)
		if back, e := text.Unquote(q); back != b || e != api.OK {
			t.Fatalf("Unquote of Quote of %x: %q, %v", r, back, e)
		}
	}
}

// P1.7: Quote of Unquote is read as the same value, and is the one form.
func TestQuoteOfUnquote(t *testing.T) {
	for _, s := range []string{`""`, `"\x41\u{42}C"`, `"\xc3\xa9\xff"`, `"\u{a}\n\x0a"`, `"\u{22}\x5c\u{7f}"`, `"\xc3\u{e9}\xa9"`} {
		v, _ := text.Unquote(s)
		q, e := text.Quote(v)
		if q != oneForm(v) || e != api.OK {
			t.Errorf("Quote of Unquote(%s) = %s, %v", s, q, e)
		}
		if back, e := text.Unquote(q); back != v || e != api.OK {
			t.Errorf("Unquote(%s) = %q, %v, not %q", q, back, e, v)
		}
	}
}
