package lexer_test

import (
	"math/rand"
	"slices"
	"strings"
	"testing"

	"quoin/api"
	"quoin/lexer"
)

// Y3: a text at once

// scans asks what All tells of a text; it holds the words against that, too.
func scans(t *testing.T, s api.Scanner, src string, want api.Fault, toks ...api.Tok) {
	t.Helper()
	l, f := lexer.All(s, src)
	tells(t, l, f, want, toks...)
	m := allOf(s, src)
	tells(t, m.toks, m.fault, want, toks...)
}

func TestAllIsTheRun(t *testing.T) {
	chance := rand.New(rand.NewSource(62))
	faults := map[api.Errno]int{}
	for range 1500 {
		s := someScanner(t, chance)
		for range 5 {
			src := someText(chance, 12)
			m := allOf(s, src)
			l, f := lexer.All(s, src)
			if !slices.Equal(l, m.toks) || f != m.fault {
				t.Fatalf("%v of %q: %v, %v and not %v, %v", s, src, l, f, m.toks, m.fault)
			}
			faults[f.Why]++
		}
	}
	for _, why := range []api.Errno{api.OK, api.ErrLex, api.ErrUtf8, api.ErrMode} {
		if faults[why] < 100 {
			t.Error("too few of one sort", faults)
		}
	}
}

func TestTheLongestAndOfTheseTheFirst(t *testing.T) {
	s := plain(t, `"if"`, `[a-z]+`, `[0-9]+`, `"<"`, `"<="`, `"<<="`, `" "`)
	s.Modes[0][6].Kind = 0
	scans(t, s, "", none)
	scans(t, s, "if iff i 12", none, tok(2, 0, 2), tok(3, 3, 6), tok(3, 7, 8), tok(4, 9, 11))
	scans(t, s, "<<=<=<", none, tok(7, 0, 3), tok(6, 3, 5), tok(5, 5, 6))
	scans(t, s, "<<<=", none, tok(5, 0, 1), tok(7, 1, 4))
	scans(t, s, "   ", none)
	scans(t, s, "if?", fault(api.ErrLex, 2), tok(2, 0, 2))
	scans(t, s, "?", fault(api.ErrLex, 0))
	scans(t, plain(t, `"a"`, `"a"`), "a", none, tok(2, 0, 1))
	scans(t, plain(t, `[a-c]`, `"b"`, `"bb"`), "bbb", none, tok(4, 0, 2), tok(2, 2, 3))
}

func TestFallingBack(t *testing.T) {
	s := plain(t, `"a"`, `"abcd"`, `"b"`, `"abcdabce"`)
	scans(t, s, "abcd", none, tok(3, 0, 4))
	scans(t, s, "abc", fault(api.ErrLex, 2), tok(2, 0, 1), tok(4, 1, 2))
	scans(t, s, "abca", fault(api.ErrLex, 2), tok(2, 0, 1), tok(4, 1, 2))
	scans(t, s, "abcdabc", fault(api.ErrLex, 6), tok(3, 0, 4), tok(2, 4, 5), tok(4, 5, 6))
	scans(t, s, "abcdabce", none, tok(5, 0, 8))
	scans(t, s, "abcdabcd", none, tok(3, 0, 4), tok(3, 4, 8))
	scans(t, s, "abcdab\xff", fault(api.ErrUtf8, 6), tok(3, 0, 4), tok(2, 4, 5), tok(4, 5, 6))
}

func TestBytesThatAreNoRunes(t *testing.T) {
	s := plain(t, `"a"`, `"abc"`, `"€"`, `.`)
	s.Modes[0] = s.Modes[0][:3]
	for _, bad := range []string{"\x80", "\xbf", "\xc0\x80", "\xc1\xbf", "\xc3", "\xc3a", "\xe2", "\xe2\x82", "\xe2\x82a", "\xe2a", "\xed\xa0\x80", "\xed\xbf\xbf", "\xe0\x80\x80", "\xf0\x9f\x98", "\xf0\x80\x80\x80", "\xf4\x90\x80\x80", "\xf5\x80\x80\x80", "\xff"} {
		scans(t, s, bad, fault(api.ErrUtf8, 0))
		scans(t, s, "a"+bad, fault(api.ErrUtf8, 1), tok(2, 0, 1))                           // behind a match
		scans(t, s, "€"+bad, fault(api.ErrUtf8, 3), tok(4, 0, 3))                           // likewise
		scans(t, s, "aab"+bad, fault(api.ErrLex, 2), tok(2, 0, 1), tok(2, 1, 2))            // within one that could go on
		scans(t, plain(t, `"abc"`), "ab"+bad, fault(api.ErrLex, 0))                         // likewise: the byte at the place is a rune's
		scans(t, plain(t, `.+`), "ab"+bad, fault(api.ErrUtf8, 2), tok(2, 0, 2))             // no rune, whatever is taken
		scans(t, plain(t, `!"" & .*`), "ab"+bad, fault(api.ErrUtf8, 2), tok(2, 0, 2))       //
		scans(t, scanner(nil), bad, fault(api.ErrUtf8, 0))                                  // in a mode without rules
		scans(t, plain(t, `[\u{d800}-\u{dfff}]`, `"a"`), bad, fault(api.ErrUtf8, 0))        // they are D800's bytes in no text
		scans(t, plain(t, `"\u{fffd}"`), "\ufffd"+bad, fault(api.ErrUtf8, 3), tok(2, 0, 3)) // what a range stands in with is a rune of its own
	}
	scans(t, plain(t, `.`), "a€😀\x00\U0010ffff", none, tok(2, 0, 1), tok(2, 1, 4), tok(2, 4, 8), tok(2, 8, 9), tok(2, 9, 13))
	scans(t, scanner(nil), "a", fault(api.ErrLex, 0))
	scans(t, scanner(nil), "", none)
}

func TestModesTurn(t *testing.T) {
	s := scanner(
		[]api.LexRule{turning(t, `"("`, 2, 2, false), turning(t, `"["`, 3, 3, false), turning(t, `")"`, 4, 0, true), rule(t, `"a"`, 5)},
		[]api.LexRule{turning(t, `"("`, 6, 2, false), turning(t, `")"`, 7, 0, true), turning(t, `"|"`, 0, 3, true), rule(t, `"a"`, 8)},
		[]api.LexRule{turning(t, `"]"`, 9, 0, true), turning(t, `"|"`, 10, 3, true), turning(t, `"("`, 0, 1, false), rule(t, `"a"`, 11)},
	)
	scans(t, s, "a(a(a)a)a", none, tok(5, 0, 1), tok(2, 1, 2), tok(8, 2, 3), tok(6, 3, 4), tok(8, 4, 5), tok(7, 5, 6), tok(8, 6, 7), tok(7, 7, 8), tok(5, 8, 9))
	scans(t, s, "[a|a]a", none, tok(3, 0, 1), tok(11, 1, 2), tok(10, 2, 3), tok(11, 3, 4), tok(9, 4, 5), tok(5, 5, 6))
	// the last mode goes, and another comes in its place
	scans(t, s, "(a|a]a", none, tok(2, 0, 1), tok(8, 1, 2), tok(11, 3, 4), tok(9, 4, 5), tok(5, 5, 6))
	scans(t, s, "((|a]a)a", none, tok(2, 0, 1), tok(6, 1, 2), tok(11, 3, 4), tok(9, 4, 5), tok(8, 5, 6), tok(7, 6, 7), tok(5, 7, 8))
	// a rule without a kind turns, too; the first mode within another is no first one
	scans(t, s, "[(a)a", none, tok(3, 0, 1), tok(5, 2, 3), tok(4, 3, 4), tok(11, 4, 5))
	scans(t, s, "[()])", fault(api.ErrMode, 4), tok(3, 0, 1), tok(4, 2, 3), tok(9, 3, 4))
	scans(t, s, ")", fault(api.ErrMode, 0))
	scans(t, s, "a)", fault(api.ErrMode, 1), tok(5, 0, 1))
	scans(t, s, "(]", fault(api.ErrLex, 1), tok(2, 0, 1))
	// in the only mode none goes, even if another would come
	only := scanner([]api.LexRule{turning(t, `"a"`, 2, 1, true), turning(t, `"b"`, 0, 0, true), turning(t, `"c"`, 3, 1, false)})
	scans(t, only, "a", fault(api.ErrMode, 0))
	scans(t, only, "b", fault(api.ErrMode, 0))
	scans(t, only, "ca", none, tok(3, 0, 1), tok(2, 1, 2))
	scans(t, only, "cab", none, tok(3, 0, 1), tok(2, 1, 2))
	scans(t, only, "cbb", fault(api.ErrMode, 2), tok(3, 0, 1))
	scans(t, only, "ccbab", none, tok(3, 0, 1), tok(3, 1, 2), tok(2, 3, 4))
}

func TestModesWithinOneAnother(t *testing.T) {
	s := scanner([]api.LexRule{turning(t, `"("`, 0, 2, false)}, []api.LexRule{turning(t, `"("`, 0, 2, false), turning(t, `")"`, 0, 0, true), turning(t, `"|"`, 2, 1, true), turning(t, `","`, 3, 0, false)})
	in := func(n int) string { return strings.Repeat("(", n) }
	scans(t, s, in(255)+",", none, tok(3, 255, 256))
	scans(t, s, in(256), fault(api.ErrModes, 255))
	scans(t, s, in(257)+"a", fault(api.ErrModes, 255))
	// with as many as may be one goes ahead of the one that comes
	scans(t, s, in(255)+"|", none, tok(2, 255, 256))
	scans(t, s, in(255)+"|(", fault(api.ErrModes, 256), tok(2, 255, 256))
	scans(t, s, in(255)+")(,", none, tok(3, 257, 258))
	scans(t, s, in(255)+")((", fault(api.ErrModes, 257))
	scans(t, s, in(255)+strings.Repeat(")", 255)+"(,", none, tok(3, 511, 512))
	scans(t, s, in(255)+strings.Repeat(")", 256), fault(api.ErrLex, 510))
}

// counted are tokens of one byte each, from a byte on.
func counted(kind, from, many int) []api.Tok {
	var l []api.Tok
	for i := range many {
		l = append(l, tok(kind, from+i, from+i+1))
	}
	return l
}

func TestAsManyTokensAsMayBe(t *testing.T) {
	s := plain(t, `"a"`, `"b"`)
	s.Modes[0][1].Kind = 0
	const most = 1 << 16
	check := func(src string, want api.Fault, toks ...api.Tok) {
		t.Helper()
		l, f := lexer.All(s, src)
		if !slices.Equal(l, toks) || f != want {
			t.Error(len(l), f, want)
		}
	}
	as := strings.Repeat("a", most)
	check(as, none, counted(2, 0, most)...)
	check(as+"a", fault(api.ErrLong, most), counted(2, 0, most)...)
	check(as+"aaa", fault(api.ErrLong, most), counted(2, 0, most)...)
	check("bb"+as+"bbb", none, counted(2, 2, most)...) // what is not told does not count
	check(as+"bbba", fault(api.ErrLong, most+3), counted(2, 0, most)...)
	check(as+"bb?", fault(api.ErrLex, most+2), counted(2, 0, most)...)
}

func TestAsManyBytesAsMayBe(t *testing.T) {
	s := plain(t, `"a"+`, `"b"`)
	const most = 1 << 18
	as := strings.Repeat("a", most)
	l, f := lexer.All(s, as)
	tells(t, l, f, none, tok(2, 0, most))
	l, f = lexer.All(s, as[1:]+"b")
	tells(t, l, f, none, tok(2, 0, most-1), tok(3, most-1, most))
	l, f = lexer.All(s, as+"a")
	tells(t, l, f, fault(api.ErrLong, 0))
	l, f = lexer.All(s, "?"+as)
	tells(t, l, f, fault(api.ErrLong, 0))
	l, f = lexer.All(s, as[1:]+"\xff")
	tells(t, l, f, fault(api.ErrUtf8, most-1), tok(2, 0, most-1))
	l, f = lexer.All(s, as+as)
	tells(t, l, f, fault(api.ErrLong, 0))
}

// A match may be looked for up to the text's end, and then be a short one, again and again.
func TestFallingBackFarTakesNoSquare(t *testing.T) {
	const most = 1 << 18
	as := strings.Repeat("a", most)
	for _, far := range []string{`"a"* "b"`, `"a"{3} "a"* "b"`, `("a"{31})* "b"`, `.* "b"`, `"a" "é"* .* "b"`} {
		s := plain(t, `"a"`, far)
		s.Modes[0][0].Kind = 0
		l, f := lexer.All(s, as)
		tells(t, l, f, none)
		l, f = lexer.All(s, as[2:]+"?")
		tells(t, l, f, fault(api.ErrLex, most-2))
	}
	// with modes that turn all the way, in which the same states go on in their own ways
	s := scanner(
		[]api.LexRule{turning(t, `"a"`, 0, 2, false), rule(t, `"a"* "b"`, 2)},
		[]api.LexRule{turning(t, `"a"`, 0, 0, true), rule(t, `"a"* "c"`, 3)},
	)
	l, f := lexer.All(s, as[1:]+"?")
	tells(t, l, f, fault(api.ErrLex, most-1))
	l, f = lexer.All(s, as[1:]+"b")
	tells(t, l, f, none, tok(2, 0, most))
	l, f = lexer.All(s, as[1:]+"c")
	tells(t, l, f, none, tok(3, 1, most))
}

// Going on in vain at one place says nothing of another one.
func TestFallingBackFarAndThenNot(t *testing.T) {
	s := plain(t, `"a"`, `"a"+ "b"`, `"c"`)
	as := strings.Repeat("a", 255)
	want := append(counted(2, 0, 255), tok(4, 255, 256), tok(3, 256, 512))
	scans(t, s, as+"c"+as+"b", none, want...)
	scans(t, s, as+"c"+as+"bc", none, append(want, tok(4, 512, 513))...)
	want = append(counted(2, 0, 255), tok(4, 255, 256))
	want = append(append(want, counted(2, 256, 255)...), tok(4, 511, 512))
	scans(t, s, as+"c"+as+"c"+as+"b", none, append(want, tok(3, 512, 768))...)
}

// Texts that are long enough for what is known of going on in vain to count.
func TestFallingBackFarIsTheRun(t *testing.T) {
	chance := rand.New(rand.NewSource(63))
	list := [][]string{
		{`"a"`, `"a"* "b"`, `"b"`}, {`"a"`, `("a"{7})+ "b"`, `"b"`}, {`"a"`, `("aé" | "é")* "b"`, `"é"`}, {`[aé]`, `[aé]* "b" [aé]* "b"`}, {`"aa"`, `"a"`, `"a"{50,} "b"`, `"b"`},
		{`[ab]`, `[ab]{130} "c"`, `"c"`}, {`"a"{3}`, `"a"`, `("a"{5})+ "c" | ("a"{4})+ "b"`, `[bc]`},
	}
	for i := range 60 {
		s := plain(t, list[i%len(list)]...)
		s.Modes = append(s.Modes, plain(t, list[(i+1)%len(list)]...).Modes[0])
		if i%3 > 0 {
			s.Modes[0][0].Push = 2
			s.Modes[1][0].Pop = true
		}
		src := ""
		for len(src) < 450 {
			src += strings.Repeat([]string{"a", "a", "é", "b"}[chance.Intn(4)], 1+chance.Intn(150))
			if chance.Intn(3) == 0 {
				src += []string{"b", "c", "é"}[chance.Intn(3)]
			}
		}
		m := allOf(s, src)
		l, f := lexer.All(s, src)
		if !slices.Equal(l, m.toks) || f != m.fault {
			t.Fatalf("%q: %v, %v and not %v, %v", src, l, f, m.toks, m.fault)
		}
		feedsAsMeant(t, chance, s, src)
	}
}
