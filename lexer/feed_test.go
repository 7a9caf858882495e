package lexer_test

import (
	"math/rand"
	"slices"
	"strings"
	"testing"

	"quoin/api"
	"quoin/lexer"
)

// Y4: a text in pieces

// feedsAsMeant feeds a text in parts and holds each answer against the words; the tokens, all together, and the fault.
func feedsAsMeant(t *testing.T, chance *rand.Rand, s api.Scanner, src string) ([]api.Tok, api.Fault) {
	t.Helper()
	x, m := made(t, s), newMeant(s)
	stands(t, x, m)
	var all []api.Tok
	for parts := cut(chance, src); len(parts) > 0; {
		n := min(len(parts), chance.Intn(3))
		l, f := x.Feed(parts[:n]...)
		toks, want := m.feed(parts[:n]...)
		tells(t, l, f, want, toks...)
		stands(t, x, m)
		all = append(all, l...)
		parts = parts[n:]
	}
	l, f := x.End()
	toks, want := m.end()
	tells(t, l, f, want, toks...)
	stands(t, x, m)
	if t.Failed() {
		t.Fatalf("%v of %q", s, src)
	}
	return append(all, l...), f
}

func TestFeedGoesAsFarAsIsCertain(t *testing.T) {
	chance := rand.New(rand.NewSource(64))
	for range 1500 {
		s := someScanner(t, chance)
		for range 5 {
			feedsAsMeant(t, chance, s, someText(chance, 12))
		}
	}
}

// step is what a lexer is fed, or that it ends, what it tells, and how it stands then.
type step struct {
	parts []string
	end   bool
	toks  []api.Tok
	fault api.Fault
	at    int
	modes []int
	wait  string
}

// goes feeds a lexer step by step.
func goes(t *testing.T, x *lexer.Lexer, steps ...step) {
	t.Helper()
	for i, s := range steps {
		var l []api.Tok
		var f api.Fault
		if s.end {
			l, f = x.End()
		} else {
			l, f = x.Feed(s.parts...)
		}
		kept := s.fault
		if kept.Why == api.ErrFull { // it is told, but the lexer has no fault
			kept = none
		}
		modes := s.modes
		if modes == nil {
			modes = []int{1}
		}
		before := t.Failed()
		tells(t, l, f, s.fault, s.toks...)
		isAt(t, x, s.at, modes, s.wait, kept)
		if t.Failed() && !before {
			t.Error("in step", i)
		}
	}
}

// parts are what is fed.
func parts(l ...string) []string { return l }

// toks are tokens.
func toks(l ...api.Tok) []api.Tok { return l }

func TestMatchesThatAreCertainAtOnce(t *testing.T) {
	goes(t, made(t, plain(t, `"a"`, `"bc"`, `"bcd"`, `"e" "f"?`)),
		step{parts: parts("a"), toks: toks(tok(2, 0, 1)), at: 1},
		step{parts: parts("aab"), toks: toks(tok(2, 1, 2), tok(2, 2, 3)), at: 3, wait: "b"},
		step{parts: parts("c"), at: 3, wait: "bc"}, // d may come
		step{parts: parts("d"), toks: toks(tok(4, 3, 6)), at: 6},
		step{parts: parts("e"), at: 6, wait: "e"},
		step{parts: parts("f"), toks: toks(tok(5, 6, 8)), at: 8},
		step{parts: parts("bc"), at: 8, wait: "bc"},
		step{parts: parts("a"), toks: toks(tok(3, 8, 10), tok(2, 10, 11)), at: 11},
		step{parts: parts("e"), at: 11, wait: "e"},
		step{parts: parts("e"), toks: toks(tok(5, 11, 12)), at: 12, wait: "e"},
		step{end: true, toks: toks(tok(5, 12, 13)), at: 13},
	)
	// one that is certain needs no whole piece behind it; one that is not does
	goes(t, made(t, plain(t, `"a"`, `"b"+`)),
		step{parts: parts("a\xe2"), toks: toks(tok(2, 0, 1)), at: 1, wait: "\xe2"},
		step{parts: parts("\x82\xac"), fault: fault(api.ErrLex, 1), at: 1, wait: "€"},
	)
	goes(t, made(t, plain(t, `"a"`, `"b"+`)),
		step{parts: parts("b\xe2"), at: 0, wait: "b\xe2"},
		step{parts: parts("\x82"), at: 0, wait: "b\xe2\x82"},
		step{parts: parts("\xac"), toks: toks(tok(3, 0, 1)), fault: fault(api.ErrLex, 1), at: 1, wait: "€"},
	)
	goes(t, made(t, plain(t, `"a"`, `"b"+`)),
		step{parts: parts("b\xe2"), at: 0, wait: "b\xe2"},
		step{parts: parts("a"), toks: toks(tok(3, 0, 1)), fault: fault(api.ErrUtf8, 1), at: 1, wait: "\xe2a"},
	)
	goes(t, made(t, plain(t, `"a"`, `"b"+`)),
		step{parts: parts("b\xff"), toks: toks(tok(3, 0, 1)), fault: fault(api.ErrUtf8, 1), at: 1, wait: "\xff"},
	)
}

func TestWhatComesOfNoTextIsNotWaitedFor(t *testing.T) {
	goes(t, made(t, plain(t, `"a"`, `"a" [\u{d800}]`, `"a" "b" [\u{d800}-\u{dfff}] "c"`, `[\u{dfff}]`)),
		step{parts: parts("a"), toks: toks(tok(2, 0, 1)), at: 1},
		step{parts: parts("\xed"), at: 1, wait: "\xed"}, // D7FF may come
		step{parts: parts("\xa0"), fault: fault(api.ErrUtf8, 1), at: 1, wait: "\xed\xa0"},
	)
	goes(t, made(t, plain(t, `"b" [\u{d800}]`)), step{parts: parts("b"), fault: fault(api.ErrLex, 0), at: 0, wait: "b"})
	goes(t, made(t, plain(t, `"b"`, `"b" [\u{d900}-\u{e000}]`)),
		step{parts: parts("b"), at: 0, wait: "b"}, // E000 may come
		step{parts: parts("\ue000"), toks: toks(tok(3, 0, 4)), at: 4},
		step{parts: parts("b\uf000"), toks: toks(tok(2, 4, 5)), fault: fault(api.ErrLex, 5), at: 5, wait: "\uf000"},
	)
}

func TestFallingBackInPieces(t *testing.T) {
	s := plain(t, `"a"`, `"abcd"`, `"b"`, `"c"`)
	goes(t, made(t, s),
		step{parts: parts("a"), at: 0, wait: "a"},
		step{parts: parts("b"), at: 0, wait: "ab"},
		step{parts: parts("c"), at: 0, wait: "abc"},
		step{parts: parts("a"), toks: toks(tok(2, 0, 1), tok(4, 1, 2), tok(5, 2, 3)), at: 3, wait: "a"},
		step{parts: parts("bcd"), toks: toks(tok(3, 3, 7)), at: 7},
		step{parts: parts("abc"), at: 7, wait: "abc"},
		step{end: true, toks: toks(tok(2, 7, 8), tok(4, 8, 9), tok(5, 9, 10)), at: 10},
	)
	goes(t, made(t, s),
		step{parts: parts("abc\xf0\x9f"), at: 0, wait: "abc\xf0\x9f"},
		step{parts: parts("\x98"), at: 0, wait: "abc\xf0\x9f\x98"},
		step{end: true, toks: toks(tok(2, 0, 1), tok(4, 1, 2), tok(5, 2, 3)), fault: fault(api.ErrUtf8, 3), at: 3, wait: "\xf0\x9f\x98"},
	)
	// what is left is gone on from as far as it is certain: not up to where it was the first time
	goes(t, made(t, plain(t, `"a"`, `"aaab"`, `"aac"`)),
		step{parts: parts("aaa"), at: 0, wait: "aaa"},
		step{parts: parts("a"), toks: toks(tok(2, 0, 1)), at: 1, wait: "aaa"},
		step{parts: parts("c"), toks: toks(tok(2, 1, 2), tok(4, 2, 5)), at: 5},
	)
}

func TestThereIsNoneAsSoonAsOneCannotGoOn(t *testing.T) {
	goes(t, made(t, plain(t, `"abc"`)),
		step{parts: parts("ab"), at: 0, wait: "ab"},
		step{parts: parts("bcd"), fault: fault(api.ErrLex, 0), at: 0, wait: "abbcd"},
		step{parts: parts("abc"), fault: fault(api.ErrLex, 0), at: 0, wait: "abbcd"},
		step{end: true, fault: fault(api.ErrLex, 0), at: 0, wait: "abbcd"},
	)
	goes(t, made(t, plain(t, `"abc"`)),
		step{parts: parts("abcab\xf4"), toks: toks(tok(2, 0, 3)), at: 3, wait: "ab\xf4"},
		step{parts: parts("\x90"), fault: fault(api.ErrLex, 3), at: 3, wait: "ab\xf4\x90"}, // no rune has these bytes
	)
	goes(t, made(t, scanner(nil)), step{parts: parts("", "a"), fault: fault(api.ErrLex, 0), at: 0, wait: "a"})
	goes(t, made(t, scanner(nil)),
		step{parts: parts("\xc3"), at: 0, wait: "\xc3"}, // a rune's byte, or none's
		step{parts: parts("\xa9"), fault: fault(api.ErrLex, 0), at: 0, wait: "é"},
	)
	goes(t, made(t, scanner(nil)),
		step{parts: parts("\xc3"), at: 0, wait: "\xc3"},
		step{end: true, fault: fault(api.ErrUtf8, 0), at: 0, wait: "\xc3"},
	)
	goes(t, made(t, scanner(nil)), step{parts: parts("\xc0"), fault: fault(api.ErrUtf8, 0), at: 0, wait: "\xc0"})
	goes(t, made(t, scanner(nil)), step{parts: parts(""), at: 0}, step{end: true, at: 0}, step{end: true, fault: fault(api.ErrFull, 0), at: 0})
}

// Every text of bytes with which a rune's begin, and no more, waits; every other one does not.
func TestPiecesThatAreNotWhole(t *testing.T) {
	s := plain(t, `"b"`)
	x := made(t, s)
	for a := 0x80; a < 0x100; a++ {
		for b := 0x00; b < 0x100; b++ {
			for _, src := range []string{string([]byte{byte(a)}), string([]byte{byte(a), byte(b)}), string([]byte{byte(a), byte(b), 0x80}), string([]byte{byte(a), byte(b), 0xbf, 'b'})} {
				y := x.Clone()
				_, f := y.Feed(src)
				if _, waits := beginnings[src]; waits != (f == none) {
					t.Fatalf("%x: %v", src, f)
				}
				m := newMeant(s)
				m.feed(src)
				stands(t, y, m)
			}
		}
	}
}

func TestPartsThatFeedIsHanded(t *testing.T) {
	goes(t, made(t, plain(t, `[a-z]+`, `"€"`, `"😀"`, `" "`)),
		step{},
		step{parts: parts()},
		step{parts: parts("", "", "")},
		step{parts: parts("a", "", "b", "c d"), toks: toks(tok(2, 0, 3), tok(5, 3, 4)), at: 4, wait: "d"},
		step{parts: parts(""), at: 4, wait: "d"},
		step{parts: parts("\xe2", "\x82", "\xac", "\xe2", "\x82"), toks: toks(tok(2, 4, 5), tok(3, 5, 8)), at: 8, wait: "\xe2\x82"},
		step{at: 8, wait: "\xe2\x82"},
		step{parts: parts("\xac\xf0\x9f", "", "\x98"), toks: toks(tok(3, 8, 11)), at: 11, wait: "\xf0\x9f\x98"},
		step{parts: parts("\x80\xe2"), toks: toks(tok(4, 11, 15)), at: 15, wait: "\xe2"},
		step{parts: parts("\xac", "\xac"), fault: fault(api.ErrLex, 15), at: 15, wait: "\u2b2c"},
		step{fault: fault(api.ErrLex, 15), at: 15, wait: "\u2b2c"},
	)
	goes(t, made(t, plain(t, `"a"`)), step{parts: parts(slices.Repeat([]string{"a"}, 1000)...), toks: counted(2, 0, 1000), at: 1000})
}

func TestBehindAFaultAndBehindTheEnd(t *testing.T) {
	s := plain(t, `[a-z]+`, `" "`)
	// behind a fault of Feed: all that came with it waits, and nothing more comes
	goes(t, made(t, s),
		step{parts: parts("ab ?", "cd"), toks: toks(tok(2, 0, 2), tok(3, 2, 3)), fault: fault(api.ErrLex, 3), at: 3, wait: "?cd"},
		step{parts: parts("ef "), fault: fault(api.ErrLex, 3), at: 3, wait: "?cd"},
		step{fault: fault(api.ErrLex, 3), at: 3, wait: "?cd"},
		step{parts: parts(strings.Repeat("a", api.MaxSource)), fault: fault(api.ErrLex, 3), at: 3, wait: "?cd"},
		step{end: true, fault: fault(api.ErrLex, 3), at: 3, wait: "?cd"},
		step{end: true, fault: fault(api.ErrLex, 3), at: 3, wait: "?cd"},
	)
	// behind the end
	goes(t, made(t, s),
		step{parts: parts("ab"), at: 0, wait: "ab"},
		step{end: true, toks: toks(tok(2, 0, 2)), at: 2},
		step{end: true, fault: fault(api.ErrFull, 2), at: 2},
		step{parts: parts("c"), fault: fault(api.ErrFull, 2), at: 2},
		step{fault: fault(api.ErrFull, 2), at: 2},
		step{parts: parts(strings.Repeat("a", api.MaxSource)), fault: fault(api.ErrFull, 2), at: 2},
		step{end: true, fault: fault(api.ErrFull, 2), at: 2},
	)
	// behind a fault of End
	goes(t, made(t, s),
		step{parts: parts("ab\xe2"), at: 0, wait: "ab\xe2"},
		step{end: true, toks: toks(tok(2, 0, 2)), fault: fault(api.ErrUtf8, 2), at: 2, wait: "\xe2"},
		step{end: true, fault: fault(api.ErrUtf8, 2), at: 2, wait: "\xe2"},
		step{parts: parts("\x82\xac"), fault: fault(api.ErrUtf8, 2), at: 2, wait: "\xe2"},
	)
	// of nothing
	goes(t, made(t, s), step{end: true}, step{parts: parts("a"), fault: fault(api.ErrFull, 0)}, step{end: true, fault: fault(api.ErrFull, 0)})
}

func TestModesInPieces(t *testing.T) {
	s := scanner(
		[]api.LexRule{turning(t, `"("`, 2, 2, false), turning(t, `")"`, 0, 0, true), rule(t, `"a"+`, 3)},
		[]api.LexRule{turning(t, `"("`, 4, 2, false), turning(t, `")"`, 5, 0, true), turning(t, `"|"`, 6, 1, true), turning(t, `"a"+`, 7, 1, false)},
	)
	goes(t, made(t, s),
		step{parts: parts("(("), toks: toks(tok(2, 0, 1), tok(4, 1, 2)), at: 2, modes: []int{1, 2, 2}},
		step{parts: parts("a"), at: 2, modes: []int{1, 2, 2}, wait: "a"}, // a mode turns when its match is certain
		step{parts: parts("("), toks: toks(tok(7, 2, 3), tok(2, 3, 4)), at: 4, modes: []int{1, 2, 2, 1, 2}},
		step{parts: parts("|"), toks: toks(tok(6, 4, 5)), at: 5, modes: []int{1, 2, 2, 1, 1}},
		step{parts: parts("))"), at: 7, modes: []int{1, 2, 2}},
		step{parts: parts("))"), toks: toks(tok(5, 7, 8), tok(5, 8, 9)), at: 9},
		step{parts: parts("aa"), at: 9, wait: "aa"},
		step{parts: parts(")a"), toks: toks(tok(3, 9, 11)), fault: fault(api.ErrMode, 11), at: 11, wait: ")a"},
	)
	goes(t, made(t, s),
		step{parts: parts("(a"), toks: toks(tok(2, 0, 1)), at: 1, modes: []int{1, 2}, wait: "a"},
		step{end: true, toks: toks(tok(7, 1, 2)), at: 2, modes: []int{1, 2, 1}},
	)
	full := append([]int{1}, slices.Repeat([]int{2}, 255)...)
	in := append(toks(tok(2, 0, 1)), counted(4, 1, 254)...)
	goes(t, made(t, s),
		step{parts: parts(strings.Repeat("(", 255)), toks: in, at: 255, modes: full},
		step{parts: parts("("), fault: fault(api.ErrModes, 255), at: 255, modes: full, wait: "("},
	)
	goes(t, made(t, s),
		step{parts: parts(strings.Repeat("(", 255), "|"), toks: append(in, tok(6, 255, 256)), at: 256, modes: append(full[:255:255], 1)},
		step{parts: parts("(", "a"), fault: fault(api.ErrModes, 256), at: 256, modes: append(full[:255:255], 1), wait: "(a"},
	)
}

func TestAsManyTokensAsMayBeInPieces(t *testing.T) {
	s := scanner([]api.LexRule{rule(t, `"a"`, 2), rule(t, `"b"`, 0), turning(t, `"("`, 3, 2, false)}, []api.LexRule{turning(t, `")"`, 4, 0, true)})
	const most = 1 << 16
	as := strings.Repeat("a", most-2)
	goes(t, made(t, s),
		step{parts: parts(as), toks: counted(2, 0, most-2), at: most - 2},
		step{parts: parts("a"), toks: toks(tok(2, most-2, most-1)), at: most - 1},
		step{parts: parts("ba"), toks: toks(tok(2, most, most+1)), at: most + 1},
		step{parts: parts("bb"), at: most + 3},
		step{parts: parts("ba"), fault: fault(api.ErrLong, most+4), at: most + 4, wait: "a"},
		step{parts: parts("b"), fault: fault(api.ErrLong, most+4), at: most + 4, wait: "a"},
		step{end: true, fault: fault(api.ErrLong, most+4), at: most + 4, wait: "a"},
	)
	goes(t, made(t, s),
		step{parts: parts(as, "aa"), toks: counted(2, 0, most), at: most},
		step{end: true, at: most},
	)
	// the modes turn ahead of the token that is one too many
	goes(t, made(t, s),
		step{parts: parts(as, "aa("), toks: counted(2, 0, most), fault: fault(api.ErrLong, most), at: most, modes: []int{1, 2}, wait: "("},
	)
}

func TestAsManyBytesAsMayBeInPieces(t *testing.T) {
	s := plain(t, `"a"+`, `"b"`)
	const most = 1 << 18
	as := strings.Repeat("a", most)
	goes(t, made(t, s),
		step{parts: parts(as), wait: as},
		step{parts: parts("", ""), wait: as},
		step{parts: parts("b"), fault: fault(api.ErrLong, most), wait: as},
		step{parts: parts(""), fault: fault(api.ErrLong, most), wait: as},
		step{end: true, fault: fault(api.ErrLong, most), wait: as},
	)
	goes(t, made(t, s),
		step{parts: parts(as[2:], "b", "b"), toks: toks(tok(2, 0, most-2), tok(3, most-2, most-1), tok(3, most-1, most)), at: most},
		step{end: true, at: most},
		step{parts: parts("b"), fault: fault(api.ErrFull, most), at: most},
	)
	goes(t, made(t, s),
		step{parts: parts("b", "a"), toks: toks(tok(3, 0, 1)), at: 1, wait: "a"},
		step{parts: parts("b", as[1:]), fault: fault(api.ErrLong, most), at: 1, wait: "a"}, // of the parts nothing is taken
		step{parts: parts("b"), fault: fault(api.ErrLong, most), at: 1, wait: "a"},
		step{end: true, fault: fault(api.ErrLong, most), at: 1, wait: "a"},
	)
	goes(t, made(t, s),
		step{parts: parts("b", "a"), toks: toks(tok(3, 0, 1)), at: 1, wait: "a"},
		step{parts: parts("b", as[3:]), toks: toks(tok(2, 1, 2), tok(3, 2, 3)), at: 3, wait: as[3:]},
		step{parts: parts("a"), fault: fault(api.ErrLong, most), at: 3, wait: as[3:]},
	)
	goes(t, made(t, s), step{parts: parts(as + "a"), fault: fault(api.ErrLong, most)})
	goes(t, made(t, s), step{parts: slices.Repeat([]string{as}, 1<<16), fault: fault(api.ErrLong, most)})
	x := made(t, s)
	for i := range most {
		if l, f := x.Feed("a"); len(l) > 0 || f != none || x.At() != 0 {
			t.Fatal(i, l, f)
		}
	}
	y := x.Clone()
	goes(t, x, step{parts: parts("a"), fault: fault(api.ErrLong, most), wait: as})
	goes(t, y, step{end: true, toks: toks(tok(2, 0, most)), at: most})
}

func TestBytesThatAreNoRunesInPieces(t *testing.T) {
	goes(t, made(t, plain(t, `"a"`, `"abc"`, `"€"`)),
		step{parts: parts("\xff", "a"), fault: fault(api.ErrUtf8, 0), at: 0, wait: "\xffa"},
	)
	goes(t, made(t, plain(t, `"a"`, `"abc"`, `"€"`)),
		step{parts: parts("ab"), at: 0, wait: "ab"},
		step{parts: parts("\x80"), toks: toks(tok(2, 0, 1)), fault: fault(api.ErrLex, 1), at: 1, wait: "b\x80"},
	)
	goes(t, made(t, plain(t, `"abc"`, `"€"`)),
		step{parts: parts("€\xe2\x82"), toks: toks(tok(3, 0, 3)), at: 3, wait: "\xe2\x82"},
		step{parts: parts("\xe2\x82\xac"), fault: fault(api.ErrUtf8, 3), at: 3, wait: "\xe2\x82€"},
	)
	goes(t, made(t, plain(t, `"abc"`)),
		step{parts: parts("ab\xe2\x82"), at: 0, wait: "ab\xe2\x82"},
		step{end: true, fault: fault(api.ErrLex, 0), at: 0, wait: "ab\xe2\x82"},
	)
}
