package regex_test

import (
	"math"
	"math/rand"
	"regexp"
	"strings"
	"testing"

	"quoin/api"
	"quoin/regex"
	"quoin/runes"
	"quoin/text"
)

// R6: reading

var aNumber = regexp.MustCompile(`^(0|[1-9][0-9]{0,2})`)

// yard reads a text from the left with a pile of values and one of signs that wait: ( and !, and | & c between two values.
type yard struct {
	s     string
	vals  []api.Regex
	signs string
	big   bool // something on the way was too much
}

func (y *yard) put(r api.Regex) {
	if r = makeOf(r); partsOf(r) > 4096 || levelsOf(r) > 64 {
		y.big = true
		r = reNone
	}
	y.vals = append(y.vals, r)
}

// pop takes the last values.
func (y *yard) pop(n int) []api.Regex {
	l := y.vals[len(y.vals)-n:]
	y.vals = y.vals[:len(y.vals)-n]
	return l
}

// settle takes all signs that bind as tight as one, or tighter.
func (y *yard) settle(sign string) {
	const rank = "(|&c!"
	for y.signs != "" {
		last := y.signs[len(y.signs)-1]
		if strings.IndexByte(rank, last) < strings.Index(rank, sign) {
			return
		}
		y.signs = y.signs[:len(y.signs)-1]
		switch last {
		case '!':
			y.put(not(y.pop(1)[0]))
		case 'c':
			y.put(cat(y.pop(2)...))
		case '&':
			y.put(and(y.pop(2)...))
		case '|':
			y.put(alt(y.pop(2)...))
		case '(':
			return
		}
	}
}

func (y *yard) blanks(at int) int {
	for at < len(y.s) && strings.Contains(" \t\n\r", y.s[at:at+1]) {
		at++
	}
	return at
}

func (y *yard) byteAt(at int) string {
	if at < len(y.s) {
		return y.s[at : at+1]
	}
	return "end"
}

// operand reads what a value begins with; whole: it was a value.
func (y *yard) operand(at int) (end int, whole bool, f api.Fault) {
	switch b := y.byteAt(at); b {
	case "!", "(":
		if len(y.signs)-strings.Count(y.signs, "|")-strings.Count(y.signs, "&")-strings.Count(y.signs, "c") == 64 {
			return 0, false, api.Fault{Why: api.ErrNest, At: at}
		}
		y.signs += b
		return at + 1, false, f
	case "[":
		s, end, f := runes.From(y.s, at)
		y.put(set(s...))
		return end, true, f
	case `"`:
		v, end, f := text.Quoted(y.s, at)
		row, notText := text.Runes(v)
		if f == (api.Fault{}) && notText != (api.Fault{}) {
			f = api.Fault{Why: api.ErrArg, At: at}
		}
		l := cat()
		for _, c := range row {
			l.Kids = append(l.Kids, one(c))
		}
		y.put(l)
		return end, true, f
	case ".":
		y.put(set(span(0, 0x10FFFF)))
		return at + 1, true, f
	}
	return 0, false, api.Fault{Why: api.ErrForm, At: at}
}

// times reads a { }.
func (y *yard) times(at int) (lo, hi, end int, f api.Fault) {
	number := func() int {
		n := 0
		for _, d := range aNumber.FindString(y.s[end:]) {
			n = 10*n + int(d-'0')
			end++
		}
		return n
	}
	end = y.blanks(at + 1)
	first := end
	lo = number()
	hi = lo
	if end > first {
		end = y.blanks(end)
		if y.byteAt(end) == "," {
			end = y.blanks(end + 1)
			before := end
			if hi = number(); end == before {
				hi = -1
			}
			end = y.blanks(end)
		}
	}
	switch {
	case end == first || y.byteAt(end) != "}":
		f = api.Fault{Why: api.ErrForm, At: end}
	case hi >= 0 && hi < lo:
		f = api.Fault{Why: api.ErrArg, At: at}
	case lo > 255 || hi > 255:
		f = api.Fault{Why: api.ErrRepeat, At: at}
	}
	return lo, hi, end + 1, f
}

func (y *yard) repeat(lo, hi int) {
	r, e := repeatOf(y.pop(1)[0], lo, hi)
	y.big = y.big || e != api.OK
	y.vals = append(y.vals, r)
}

// read reads as far as it goes.
func (y *yard) read(at int) (end int, f api.Fault) {
	end, value := at, false
	for next := at; ; next = y.blanks(end) {
		b := y.byteAt(next)
		switch {
		case !value:
			end, value, f = y.operand(next)
		case strings.Contains("*+?", b):
			y.repeat(map[string]int{"+": 1}[b], map[string]int{"*": -1, "+": -1, "?": 1}[b])
			end = next + 1
		case b == "{":
			var lo, hi int
			if lo, hi, end, f = y.times(next); f == (api.Fault{}) {
				y.repeat(lo, hi)
			}
		case b == "|" || b == "&":
			y.settle(b)
			y.signs += b
			end, value = next+1, false
		case strings.Contains("![(\".", b):
			y.settle("c")
			y.signs += "c"
			end, value, f = y.operand(next)
		case b == ")" && strings.Contains(y.signs, "("):
			y.settle("(")
			end = next + 1
		case strings.Contains(y.signs, "("):
			f = api.Fault{Why: api.ErrForm, At: next}
		default:
			y.settle("|")
			return end, f
		}
		if f != (api.Fault{}) {
			return 0, f
		}
	}
}

// checkReading holds Parse and From of a text against the yard; it tells how much both agreed on.
func checkReading(t *testing.T, s string) (fault api.Errno, big bool) {
	t.Helper()
	y := &yard{s: s}
	end, f := y.read(0)
	r, g := regex.Parse(s)
	whole := f
	if f == (api.Fault{}) && end < len(s) {
		whole = api.Fault{Why: api.ErrMore, At: end}
	}
	if whole == (api.Fault{}) && y.big {
		return api.OK, true
	}
	if g != whole || g == (api.Fault{}) && !same(r, y.vals[0]) || g != (api.Fault{}) && !same(r, api.Regex{}) {
		t.Errorf("%q: %s %v, want %v", s, brief(r), g, whole)
	}
	if s == "" || y.big && f == (api.Fault{}) {
		return whole.Why, y.big
	}
	for _, ahead := range []string{"", "[z] | ", "\""} {
		meant, behind := f, end+len(ahead)
		if f != (api.Fault{}) {
			behind = 0
			meant.At += len(ahead)
		}
		r, n, g := regex.From(ahead+s, len(ahead))
		if g != meant || n != behind || g == (api.Fault{}) && !same(r, y.vals[0]) || g != (api.Fault{}) && !same(r, api.Regex{}) {
			t.Errorf("%q: %s %d %v, want %d %v", s, brief(r), n, g, behind, meant)
		}
	}
	return whole.Why, y.big
}

// signsOf are the signs of some expression's text.
func signsOf(chance *rand.Rand, levels int) []string {
	atoms := []string{`[a]`, `[b-c]`, `[^a]`, `[ a  z ]`, `[]`, `""`, `"a"`, `"ab\n"`, `"\u{e9}é"`, `"\xc3\xa9"`, `.`}
	if levels == 0 {
		return []string{atoms[chance.Intn(len(atoms))]}
	}
	kid := func() []string { return signsOf(chance, chance.Intn(levels)) }
	switch chance.Intn(7) {
	case 0:
		return append(append(kid(), "|"), kid()...)
	case 1:
		return append(append(kid(), "&"), kid()...)
	case 2:
		return append(kid(), kid()...)
	case 3:
		return append([]string{"!"}, kid()...)
	case 4:
		return append(kid(), []string{"*", "+", "?"}[chance.Intn(3)])
	case 5:
		l := append(kid(), "{", []string{"0", "1", "2"}[chance.Intn(3)])
		switch chance.Intn(3) {
		case 0:
			l = append(l, ",")
		case 1:
			l = append(l, ",", []string{"2", "3", "4"}[chance.Intn(3)])
		}
		return append(l, "}")
	}
	return append(append([]string{"("}, kid()...), ")")
}

// spaced are signs with blanks between some of them.
func spaced(chance *rand.Rand, signs []string) string {
	var b strings.Builder
	for i, s := range signs {
		for range chance.Intn(3) * chance.Intn(2) {
			if i > 0 {
				b.WriteByte(" \t\n\r"[chance.Intn(4)])
			}
		}
		b.WriteString(s)
	}
	return b.String()
}

// spoilt is a text with one byte more, less, or another.
func spoilt(chance *rand.Rand, s string) string {
	at := chance.Intn(len(s) + 1)
	more := []string{"", "(", ")", "!", "|", "&", "*", "{", "}", ",", "[", "]", `"`, ".", "0", "7", "10", "256", " ", "\n", "x", "\x00", "\v", "\f", "\xff", "é", `\`, "-", "^"}
	return s[:at] + more[chance.Intn(len(more))] + s[min(len(s), at+chance.Intn(3)):]
}

func TestReading(t *testing.T) {
	chance := rand.New(rand.NewSource(6))
	var count [100]int
	for range 6000 {
		s := spaced(chance, signsOf(chance, 1+chance.Intn(6)))
		if why, _ := checkReading(t, s); why != api.OK {
			t.Error(s, why)
		}
		for range 4 {
			why, _ := checkReading(t, spoilt(chance, s))
			count[why]++
		}
		checkReading(t, s[:chance.Intn(len(s)+1)])
	}
	for _, why := range []api.Errno{api.OK, api.ErrArg, api.ErrForm, api.ErrMore, api.ErrQuote, api.ErrRepeat} {
		if count[why] < 10 {
			t.Error("too few", why, count[why])
		}
	}
}

// Each prefix of a text that has each form, and each sort of blank between any two signs

func TestBlanksAndEnds(t *testing.T) {
	signs := []string{`[a]`, `*`, `|`, `!`, `(`, `"b"`, `+`, `.`, `?`, `)`, `{`, `2`, `}`, `&`, `(`, `[c]`, `{`, `0`, `,`, `}`, `[^a]`, `{`, `1`, `,`, `3`, `}`, `*`, `)`}
	plain := strings.Join(signs, "")
	meant := parsed(t, plain)
	for i := range signs {
		for _, blank := range []string{" ", "\t", "\n", "\r", " \t\n\r  \r\n"} {
			s := strings.Join(signs[:i], "") + blank + strings.Join(signs[i:], "")
			checkReading(t, s)
			r, f := regex.Parse(s)
			switch {
			case i == 0 && f != (api.Fault{Why: api.ErrForm}):
				t.Errorf("%q: %v", s, f)
			case i > 0 && (f != (api.Fault{}) || !same(r, meant)):
				t.Errorf("%q: %v", s, f)
			}
		}
		for _, other := range []string{"\v", "\f", "\x00", "\u00a0", "\u2028", "\\", "x", "^", ",", "}", "]", "{", "7"} {
			checkReading(t, strings.Join(signs[:i], "")+other+strings.Join(signs[i:], ""))
		}
	}
	for i := range len(plain) {
		checkReading(t, plain[:i])
		checkReading(t, plain[:i]+" ")
	}
	if r := parsed(t, strings.Join(signs, " \t\n\r")); !same(r, meant) {
		t.Error(brief(r))
	}
}

// faults are texts and what is wrong with them.
func checkFaults(t *testing.T, faults map[string]api.Fault) {
	t.Helper()
	for s, meant := range faults {
		r, f := regex.Parse(s)
		if f != meant || !same(r, api.Regex{}) {
			t.Errorf("%.100q: %s %v, want %v", s, brief(r), f, meant)
		}
	}
}

func TestFaults(t *testing.T) {
	checkFaults(t, map[string]api.Fault{
		``: {Why: api.ErrForm}, ` `: {Why: api.ErrForm}, ` [a]`: {Why: api.ErrForm}, `a`: {Why: api.ErrForm}, `*`: {Why: api.ErrForm}, `|[a]`: {Why: api.ErrForm}, `)`: {Why: api.ErrForm}, `]`: {Why: api.ErrForm},
		`(`: {Why: api.ErrForm, At: 1}, `()`: {Why: api.ErrForm, At: 1}, `( )`: {Why: api.ErrForm, At: 2}, `("a"`: {Why: api.ErrForm, At: 4}, `("a" `: {Why: api.ErrForm, At: 5}, `("a" x)`: {Why: api.ErrForm, At: 5}, `(.`: {Why: api.ErrForm, At: 2},
		`!`: {Why: api.ErrForm, At: 1}, `! `: {Why: api.ErrForm, At: 2}, `!*`: {Why: api.ErrForm, At: 1}, `.|`: {Why: api.ErrForm, At: 2}, `.&`: {Why: api.ErrForm, At: 2}, `.| `: {Why: api.ErrForm, At: 3}, `.||.`: {Why: api.ErrForm, At: 2}, `.&|.`: {Why: api.ErrForm, At: 2}, `.|*`: {Why: api.ErrForm, At: 2},
		`.{`: {Why: api.ErrForm, At: 2}, `.{}`: {Why: api.ErrForm, At: 2}, `.{,2}`: {Why: api.ErrForm, At: 2}, `.{ x`: {Why: api.ErrForm, At: 3}, `.{2`: {Why: api.ErrForm, At: 3}, `.{2 `: {Why: api.ErrForm, At: 4}, `.{2,`: {Why: api.ErrForm, At: 4}, `.{2,3`: {Why: api.ErrForm, At: 5}, `.{2,3,`: {Why: api.ErrForm, At: 5}, `.{2,,}`: {Why: api.ErrForm, At: 4}, `.{2;}`: {Why: api.ErrForm, At: 3},
		`.{00}`: {Why: api.ErrForm, At: 3}, `.{01}`: {Why: api.ErrForm, At: 3}, `.{1,00}`: {Why: api.ErrForm, At: 5}, `.{1,02}`: {Why: api.ErrForm, At: 5}, `.{0 0}`: {Why: api.ErrForm, At: 4}, `.{1 0}`: {Why: api.ErrForm, At: 4}, `.{1000}`: {Why: api.ErrForm, At: 5}, `.{1,1000}`: {Why: api.ErrForm, At: 7}, `.{-1}`: {Why: api.ErrForm, At: 2}, `.{+1}`: {Why: api.ErrForm, At: 2}, `.{1,-1}`: {Why: api.ErrForm, At: 4}, `.{2560}`: {Why: api.ErrForm, At: 5},
		`.{2,1}`: {Why: api.ErrArg, At: 1}, `. { 2 , 1 }`: {Why: api.ErrArg, At: 2}, `.{1,0}`: {Why: api.ErrArg, At: 1}, `.{300,200}`: {Why: api.ErrArg, At: 1}, `.{256,255}`: {Why: api.ErrArg, At: 1}, `.{2,1}x`: {Why: api.ErrArg, At: 1}, `[]{2,1}`: {Why: api.ErrArg, At: 2},
		`.{256}`: {Why: api.ErrRepeat, At: 1}, `.{256,}`: {Why: api.ErrRepeat, At: 1}, `.{0,256}`: {Why: api.ErrRepeat, At: 1}, `.{999}`: {Why: api.ErrRepeat, At: 1}, `""{256}`: {Why: api.ErrRepeat, At: 2}, `.*{256`: {Why: api.ErrForm, At: 6}, `.{256,x}`: {Why: api.ErrForm, At: 6},
		`.)`: {Why: api.ErrMore, At: 1}, `. `: {Why: api.ErrMore, At: 1}, `.  )`: {Why: api.ErrMore, At: 1}, `. x`: {Why: api.ErrMore, At: 1}, `(.))`: {Why: api.ErrMore, At: 3}, `.]`: {Why: api.ErrMore, At: 1}, `.7`: {Why: api.ErrMore, At: 1}, `.}`: {Why: api.ErrMore, At: 1}, `.* ,`: {Why: api.ErrMore, At: 2}, ".\x00": {Why: api.ErrMore, At: 1}, `. {2} ;`: {Why: api.ErrMore, At: 5},
		`[`: {Why: api.ErrForm, At: 1}, `. [a`: {Why: api.ErrForm, At: 4}, `.[z-a]`: {Why: api.ErrArg, At: 2}, `.[\u{110000}]`: {Why: api.ErrRune, At: 2}, `.[a-`: {Why: api.ErrForm, At: 4}, `([^a-b`: {Why: api.ErrForm, At: 6}, ".[a\t]": {Why: api.ErrForm, At: 3}, `[a"]`: {Why: api.ErrForm, At: 2}, `[\`: {Why: api.ErrForm, At: 2},
		`"`: {Why: api.ErrQuote}, `. "a`: {Why: api.ErrQuote, At: 2}, `."\q"`: {Why: api.ErrQuote, At: 1}, ".\"\n\"": {Why: api.ErrQuote, At: 1}, `."\u{d800}"`: {Why: api.ErrQuote, At: 1}, ".\"\xff\"": {Why: api.ErrQuote, At: 1}, `."` + strings.Repeat("a", 4097) + `"`: {Why: api.ErrQuote, At: 1},
		`."\xff"`: {Why: api.ErrArg, At: 1}, `(. "ab\xc3")`: {Why: api.ErrArg, At: 3}, `"\xed\xa0\x80"`: {Why: api.ErrArg}, `"\xff" )`: {Why: api.ErrArg}, `"\xff`: {Why: api.ErrQuote},
	})
}

func TestReadingByHand(t *testing.T) {
	a, b := one('a'), one('b')
	dot := set(span(0, 0x10FFFF))
	for s, meant := range map[string]api.Regex{
		`.`: dot, `[^]`: dot, `[]`: reNone, `""`: reEmpty, `"ab"`: cat(a, b), `"\xc3\xa9"`: one(0xE9), `"é"`: one(0xE9), `"\n"`: one(10), `[a]`: a, `([a])`: a, `(([a]))`: a,
		`[a][b]`: cat(a, b), `[a]|[b]`: set(span('a', 'b')), `"ab"|[b]&"a"*`: alt(cat(a, b), and(b, star(a))), `("ab"|[b])&"a"*`: and(alt(b, cat(a, b)), star(a)), `[a]&[b]*[a]`: and(a, cat(star(b), a)),
		`![a][b]`: cat(not(a), b), `!([a][b])`: not(cat(a, b)), `![a]*`: not(star(a)), `(![a])*`: star(not(a)), `!![a]`: a, `! ! ![a]`: not(a), `![a]|"ab"`: alt(cat(a, b), not(a)), `[a]![b]`: cat(a, not(b)),
		`[a]+`: cat(a, star(a)), `[a]?`: alt(reEmpty, a), `[a]{2}`: cat(a, a), `[a]{0}`: reEmpty, `[a]{2,}`: cat(a, a, star(a)), `[a]{0,}`: star(a), `[a]{1,2}`: cat(a, alt(reEmpty, a)), `[a]{0,0}`: reEmpty, `[a]{1,1}`: a, `[a]{10}`: parsed(t, `"aaaaaaaaaa"`),
		`[a]**`: star(a), `[a]*?`: alt(reEmpty, star(a)), `[a]?*`: star(alt(reEmpty, a)), `[a]{2}{2}`: cat(a, a, a, a), `"ab"{2}`: cat(a, b, a, b), `"ab"*`: star(cat(a, b)), `[a]{255}`: parsed(t, `"`+strings.Repeat("a", 255)+`"`), `[]{255}`: reNone, `""{0,255}`: reEmpty,
		`(([a]|[b])|"ab")|[a]`: alt(set(span('a', 'b')), cat(a, b)), `[a] & ![]`: a, `[a] | ![]`: reAll, `[a] & []`: reNone, `[a] []`: reNone, `[]*`: reEmpty,
	} {
		r, f := regex.Parse(s)
		if f != (api.Fault{}) || !same(r, meant) {
			t.Errorf("%s: %s %v, want %s", s, brief(r), f, brief(meant))
		}
		checkReading(t, s)
	}
}

func TestFrom(t *testing.T) {
	for _, at := range []int{-1, 3, 4, math.MaxInt, math.MinInt} {
		r, end, f := regex.From(`[a]`, at)
		if f != (api.Fault{Why: api.ErrArg}) || end != 0 || !same(r, api.Regex{}) {
			t.Error(at, end, f)
		}
	}
	for _, at := range []int{-1, 0, 1} {
		if r, end, f := regex.From(``, at); f != (api.Fault{Why: api.ErrArg}) || end != 0 || !same(r, api.Regex{}) {
			t.Error(at, end, f)
		}
	}
	a := one('a')
	for _, x := range []struct {
		s       string
		at, end int
		r       api.Regex
	}{
		{`[a]`, 0, 3, a}, {`[a] `, 0, 3, a}, {"[a] \t\n\r ;", 0, 3, a}, {`x = [a]* ;`, 4, 8, star(a)}, {`([a]))`, 0, 5, a}, {`([a]))`, 1, 4, a}, {`[a] pop`, 0, 3, a}, {`[a]7`, 0, 3, a}, {`[a]{2} }`, 0, 6, cat(a, a)}, {`.`, 0, 1, set(span(0, 0x10FFFF))}, {`é"a"é`, 2, 5, a},
	} {
		r, end, f := regex.From(x.s, x.at)
		if f != (api.Fault{}) || end != x.end || !same(r, x.r) {
			t.Error(x.s, brief(r), end, f)
		}
	}
	for _, x := range []struct {
		s  string
		at int
		f  api.Fault
	}{
		{`[a] `, 3, api.Fault{Why: api.ErrForm, At: 3}}, {`[a] [b]`, 3, api.Fault{Why: api.ErrForm, At: 3}}, {`[a] ;`, 4, api.Fault{Why: api.ErrForm, At: 4}}, {`x[a] [`, 1, api.Fault{Why: api.ErrForm, At: 6}}, {`x.{2,1}`, 1, api.Fault{Why: api.ErrArg, At: 2}}, {`x.|`, 1, api.Fault{Why: api.ErrForm, At: 3}}, {`x."`, 1, api.Fault{Why: api.ErrQuote, At: 2}}, {`x(.`, 1, api.Fault{Why: api.ErrForm, At: 3}}, {`x.{`, 1, api.Fault{Why: api.ErrForm, At: 3}}, {`"[a]"`, 1, api.Fault{Why: api.ErrQuote, At: 4}},
	} {
		if r, end, f := regex.From(x.s, x.at); f != x.f || end != 0 || !same(r, api.Regex{}) {
			t.Error(x.s, brief(r), end, f)
		}
	}
}

// MaxNest brackets or ! and one more

func TestManyBrackets(t *testing.T) {
	a := one('a')
	for _, x := range []struct{ open, close string }{{"(", ")"}, {"!", ""}, {"( ", " )"}, {"! ", ""}} {
		for _, n := range []int{1, 63, 64, 65, 66, 1000, 100000} {
			s := strings.Repeat(x.open, n) + "[a]" + strings.Repeat(x.close, n)
			r, f := regex.Parse(s)
			if n > 64 {
				if f != (api.Fault{Why: api.ErrNest, At: 64 * len(x.open)}) || !same(r, api.Regex{}) {
					t.Error(x.open, n, f)
				}
				continue
			}
			meant := a
			if x.close == "" && n%2 == 1 {
				meant = not(a)
			}
			if f != (api.Fault{}) || !same(r, meant) {
				t.Error(x.open, n, f)
			}
		}
	}
	pairs := strings.Repeat("!(", 32)
	ends := strings.Repeat(")", 32)
	checkFaults(t, map[string]api.Fault{
		pairs + "([a])" + ends:                            {Why: api.ErrNest, At: 64},
		pairs + "![a]" + ends:                             {Why: api.ErrNest, At: 64},
		pairs + "[a] (" + ends:                            {Why: api.ErrNest, At: 68},
		pairs + "[a] | !" + ends:                          {Why: api.ErrNest, At: 70},
		"([a])![a](![a])" + pairs + "[a]!" + ends:         {Why: api.ErrNest, At: 15 + 64 + 3},
		strings.Repeat("(", 64) + strings.Repeat(")", 64): {Why: api.ErrForm, At: 64},
		strings.Repeat("(", 64):                           {Why: api.ErrForm, At: 64},
		strings.Repeat("!", 65):                           {Why: api.ErrNest, At: 64},
	})
	for _, s := range []string{pairs + "[a]" + ends, strings.Repeat("!(", 31) + "!([a]) ![a] !([a] | ([a]))" + ends[:31], strings.Repeat("(", 64) + "[a]" + strings.Repeat(") ![a]", 64), strings.Repeat("![a] ([a])", 100)} {
		checkReading(t, s)
	}
	sideBySide := strings.Repeat("!([a])", 200)
	if r, f := regex.Parse(sideBySide); f != (api.Fault{}) || len(r.Kids) != 200 {
		t.Error(f)
	}
}

// Limits: what is made on the way, the innermost first, from the left, if nothing is wrong with the text

func TestReadingMuch(t *testing.T) {
	long := `"` + strings.Repeat("x", 2048) + `"` // 4097 parts
	fits := long[:1] + long[2:]
	half := `"` + strings.Repeat("x", 1500) + `"`
	other := `"` + strings.Repeat("y", 1500) + `"`
	deep := `[a]{0,33}`
	tallest := strings.Repeat("!([a] ", 32) + `"a"` + strings.Repeat(")", 32) // 65 levels, 64 brackets
	full := textOf(wide(4096))
	size, nest := api.Fault{Why: api.ErrSize}, api.Fault{Why: api.ErrNest}
	checkFaults(t, map[string]api.Fault{
		long: size, deep: nest, tallest + `[b]`: nest, `[a]{0,33}*`: nest, half + half: size, half + `|` + other: size, half + `&` + other: size, `!(` + fits + `)*`: size, `(` + fits + `*)?`: size,
		`[] ` + long: size, long + ` []`: size, `(` + half + other + `)[]`: size, `[](` + half + other + `)`: size, `![] | (` + half + other + `)`: size, `![] | ` + deep: nest, `[] & ` + deep: nest, `[] ` + deep: nest,
		deep + long: nest, long + deep: size, `(` + deep + `)(` + half + other + `)`: nest, half + half + deep: nest, half + half + `|` + deep: size, `[a]{1,33}{100}{200}`: nest, `[a]{100}{200}{0,40}`: size, `[a]{0,40}{100}{200}`: nest, `(` + half + half + `){0}`: size, half + `{2}`: size, half + `{2}{0}`: size, half + `{1,2}`: size, half + `+`: size,
		half + half + `&[]`: size, half + `&` + other + `|![]`: size, `(` + half + `|` + other + `)[]`: size, `!(` + full + `)[]`: size, `[]!(` + full + `)`: size, `(` + full + `)*[]`: size, `(` + full + `)?[]`: size,
		long + `)`: {Why: api.ErrMore, At: len(long)}, long + ` `: {Why: api.ErrMore, At: len(long)}, long + `|`: {Why: api.ErrForm, At: len(long) + 1}, long + `[`: {Why: api.ErrForm, At: len(long) + 1}, long + `{2,1}`: {Why: api.ErrArg, At: len(long)}, long + `{256}`: {Why: api.ErrRepeat, At: len(long)}, long + `"\xff"`: {Why: api.ErrArg, At: len(long)}, long + `"`: {Why: api.ErrQuote, At: len(long)}, `(` + long: {Why: api.ErrForm, At: len(long) + 1}, long + strings.Repeat("!", 65): {Why: api.ErrNest, At: len(long) + 64}, deep + `)`: {Why: api.ErrMore, At: len(deep)}, deep + `*{`: {Why: api.ErrForm, At: len(deep) + 2},
	})
	for s, meant := range map[string]api.Regex{fits: wordOf("x", 2047), fits + `*`: star(wordOf("x", 2047)), fits + `**`: star(wordOf("x", 2047)), half + `{0}`: reEmpty, half + half + `[]`: reNone, `[]` + half + other: reNone, half + `|` + other + `| ![]`: reAll, `![]|` + half + `|` + other: reAll, half + `&` + other + `&[]`: reNone, half + `|` + half: wordOf("x", 1500), `[a]{0,32}{0}`: reEmpty} {
		if r := parsed(t, s); !same(r, meant) {
			t.Errorf("%.100q: %s", s, brief(r))
		}
	}
	for s, why := range map[string]api.Errno{long: api.ErrSize, deep: api.ErrNest, long + deep: api.ErrSize, `[] ` + deep: api.ErrNest} {
		if r, end, f := regex.From(`[a] `+s+` ;`, 4); f != (api.Fault{Why: why, At: 4}) || end != 0 || !same(r, api.Regex{}) {
			t.Error(end, f)
		}
	}
}

// wordOf is the ReCat of one rune n times.
func wordOf(c string, n int) api.Regex {
	var kids []api.Regex
	for _, r := range strings.Repeat(c, n) {
		kids = append(kids, one(r))
	}
	return cat(kids...)
}

func TestReadingManyRanges(t *testing.T) {
	text := func(l []api.Range) string {
		s, _ := runes.Text(set(l...).Set)
		return s
	}
	low, high := text(dots(1000, 1500)), text(dots(6001, 1500))
	most := text(dots(1000, 2048))
	over := most[:len(most)-1] + `\u{f000}]`
	long := `"` + strings.Repeat("x", 2048) + `"`
	checkFaults(t, map[string]api.Fault{
		over:                                   {Why: api.ErrRanges},
		`. ` + over:                            {Why: api.ErrRanges, At: 2},
		`.(` + over + ` )`:                     {Why: api.ErrRanges, At: 2},
		over + `)`:                             {Why: api.ErrRanges},
		long + over:                            {Why: api.ErrRanges, At: len(long)},
		low + `|` + high:                       {Why: api.ErrRanges},
		`[] (` + low + `|` + high + `)`:        {Why: api.ErrRanges},
		`[a]{0,33} (` + low + `|` + high + `)`: {Why: api.ErrNest},
		`(` + low + `|` + high + `)` + long:    {Why: api.ErrRanges},
		low + `|` + high + `)`:                 {Why: api.ErrMore, At: len(low+high) + 1},
	})
	for s, meant := range map[string]api.Regex{most: set(dots(1000, 2048)...), low + `|` + high + `|![]`: reAll, low + `&` + high: reNone} {
		if r := parsed(t, s); !same(r, meant) {
			t.Error(brief(r))
		}
	}
	if r, end, f := regex.From(`[a]|`+low+`|`+high, 4); f != (api.Fault{Why: api.ErrRanges, At: 4}) || end != 0 || !same(r, api.Regex{}) {
		t.Error(end, f)
	}
}
