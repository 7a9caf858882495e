package lexer_test

import (
	"math/rand"
	"slices"
	"testing"

	"quoin/api"
	"quoin/lexer"
	"quoin/regex"
	"quoin/text"
)

// Y5 to Y8: what follows

func TestHoweverATextIsCut(t *testing.T) {
	chance := rand.New(rand.NewSource(65))
	for range 600 {
		s, src := someScanner(t, chance), someText(chance, 20)
		want, f := lexer.All(s, src)
		for range 4 {
			l, g := feedsAsMeant(t, chance, s, src)
			tells(t, l, g, f, want...)
		}
		fedAs(t, s, want, f, src)             // at once
		fedAs(t, s, want, f, bytesOf(src)...) // byte by byte
		x := made(t, s)                       // and all bytes as parts of one Feed
		l, g := x.Feed(bytesOf(src)...)
		more, h := x.End()
		if g == none {
			g = h
		}
		tells(t, append(l, more...), g, f, want...)
	}
}

// bytesOf are a text's bytes, each a text.
func bytesOf(src string) []string {
	var l []string
	for i := range len(src) {
		l = append(l, src[i:i+1])
	}
	return l
}

// fedAs feeds parts one by one and holds what comes of it against what should come.
func fedAs(t *testing.T, s api.Scanner, want []api.Tok, f api.Fault, parts ...string) {
	t.Helper()
	x := made(t, s)
	var all []api.Tok
	for _, part := range parts {
		l, g := x.Feed(part)
		all = append(all, l...)
		if g != x.Fault() {
			t.Error(g, x.Fault())
		}
	}
	l, g := x.End()
	tells(t, append(all, l...), g, f, want...)
}

// TestEveryCut cuts texts in two and in three in all ways.
func TestEveryCut(t *testing.T) {
	s := scanner(
		[]api.LexRule{rule(t, `"if"`, 2), rule(t, `[a-z]+`, 3), rule(t, `[\u{20}\n]+`, 0), rule(t, `"é"+ "!"`, 4), rule(t, `"é"`, 5), turning(t, `"\""`, 6, 2, false), rule(t, `"😀"`, 7), rule(t, `[0-9]+ ("." [0-9]+)?`, 8), rule(t, `"."`, 9)},
		[]api.LexRule{rule(t, `[^\"\\]+`, 10), rule(t, `"\\" .`, 11), turning(t, `"\""`, 12, 0, true)},
	)
	for _, src := range []string{"if iffy éé! ééx", `a"b\"😀\\"1.5.x`, "1.é😀\xf0\x9f", "if\xe2\x82\xacx", `"é`} {
		want, f := lexer.All(s, src)
		if m := allOf(s, src); !slices.Equal(want, m.toks) || f != m.fault || len(want) == 0 {
			t.Error(src, want, f)
		}
		for i := range len(src) + 1 {
			for j := i; j <= len(src); j++ {
				fedAs(t, s, want, f, src[:i], src[i:j], src[j:])
			}
		}
	}
}

// runesOf are the runes of a text that has no other bytes.
func runesOf(t *testing.T, s string) []rune {
	t.Helper()
	l, f := text.Runes(s)
	if f != none {
		t.Fatal(s, f)
	}
	return l
}

func TestNoTokenCouldBeLongerAndNoEarlierRuleTakesIt(t *testing.T) {
	chance := rand.New(rand.NewSource(66))
	seen := 0
	for range 3000 {
		s := someScanner(t, chance)
		rules := s.Modes[0]
		for i := range rules {
			rules[i].Kind, rules[i].Push, rules[i].Pop = 2+i, 0, false
		}
		src := someText(chance, 10)
		l, _ := lexer.All(scanner(rules), src)
		seen += len(l)
		for _, x := range l {
			row := runesOf(t, src[x.From:x.To])
			takes := func(r api.LexRule) bool { return regex.Match(r.Re, row...) }
			if x.To <= x.From || slices.IndexFunc(rules, takes) != x.Kind-2 {
				t.Fatalf("%v of %q: %v", rules, src, l)
			}
			for at := x.To; at < len(src); {
				c, size, isRune := text.Next(src, at)
				if !isRune {
					break
				}
				row = append(row, c)
				at += size
				if slices.ContainsFunc(rules, takes) {
					t.Fatalf("%v of %q: %v could be longer", rules, src, x)
				}
			}
		}
	}
	if seen < 1000 {
		t.Error("too few", seen)
	}
}

func TestNothingIsLost(t *testing.T) {
	chance := rand.New(rand.NewSource(67))
	between := 0
	for range 3000 {
		s, src := someScanner(t, chance), someText(chance, 14)
		l, f := lexer.All(s, src)
		m := allOf(s, src)
		at, told := 0, 0
		for _, x := range m.matches { // one behind the other, from the beginning to the fault's place or the end
			if x.from != at || f != none && x.from >= f.At {
				break
			}
			at = x.to
			if r := s.Modes[x.mode][x.rule]; r.Kind == 0 {
				between++
			} else if told >= len(l) || l[told] != tok(r.Kind, x.from, x.to) {
				t.Fatalf("%v of %q: %v", s, src, l)
			} else {
				told++
			}
		}
		end := len(src)
		if f != none {
			end = f.At
		}
		if told != len(l) || at != end {
			t.Fatalf("%v of %q: %v, %v; %d tokens, up to %d", s, src, l, f, told, at)
		}
	}
	if between < 300 {
		t.Error("too few", between)
	}
}

func TestWhatWasToldStays(t *testing.T) {
	chance := rand.New(rand.NewSource(68))
	told := 0
	for range 400 {
		s, src := someScanner(t, chance), someText(chance, 10)
		x := made(t, s)
		l, f := x.Feed(src)
		for range 12 {
			behind := someText(chance, 4)
			all, g := lexer.All(s, src+behind)
			if len(all) < len(l) || !slices.Equal(all[:len(l)], l) || f != none && (g != f || len(all) != len(l)) {
				t.Fatalf("%v of %q: %v, %v and not %v, %v, with %q behind it", s, src, all, g, l, f, behind)
			}
			told += len(l)
		}
	}
	if told < 1000 {
		t.Error("too few", told)
	}
}
