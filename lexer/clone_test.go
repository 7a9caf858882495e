package lexer_test

import (
	"math/rand"
	"slices"
	"strings"
	"testing"

	"quoin/api"
	"quoin/lexer"
)

// Y4: clones, and R1: lexers that no call made

// pair is a lexer, and how it stands by the words.
type pair struct {
	x *lexer.Lexer
	m *meant
}

func TestClonesGoOnInTheirOwnWays(t *testing.T) {
	chance := rand.New(rand.NewSource(69))
	for range 500 {
		s := someScanner(t, chance)
		all := []pair{{made(t, s), newMeant(s)}}
		for range 25 {
			i := chance.Intn(len(all))
			p := all[i]
			switch chance.Intn(6) {
			case 0:
				all = append(all, pair{p.x.Clone(), p.m.copied()})
			case 1:
				if chance.Intn(4) == 0 {
					l, f := p.x.End()
					toks, want := p.m.end()
					tells(t, l, f, want, toks...)
				}
			default:
				parts := cut(chance, someText(chance, 4))
				l, f := p.x.Feed(parts...)
				toks, want := p.m.feed(parts...)
				tells(t, l, f, want, toks...)
			}
			for _, p := range all {
				stands(t, p.x, p.m)
			}
			if t.Failed() {
				t.FailNow()
			}
		}
	}
}

func TestClonesOfEachSort(t *testing.T) {
	s := scanner([]api.LexRule{rule(t, `"a"+`, 2), turning(t, `"("`, 3, 2, false)}, []api.LexRule{rule(t, `"abc"`, 4), turning(t, `")"`, 5, 0, true), turning(t, `"("`, 6, 2, false)})
	x := made(t, s)
	fresh := x.Clone()
	if fresh == nil || fresh == x {
		t.Fatal("not another one")
	}
	x.Feed("a((ab")
	waiting := x.Clone()
	isAt(t, waiting, 3, []int{1, 2, 2}, "ab", none)
	goes(t, x, step{parts: parts("c", ")"), toks: toks(tok(4, 3, 6), tok(5, 6, 7)), at: 7, modes: []int{1, 2}})
	isAt(t, waiting, 3, []int{1, 2, 2}, "ab", none)
	goes(t, waiting.Clone(), step{parts: parts("d"), fault: fault(api.ErrLex, 3), at: 3, modes: []int{1, 2, 2}, wait: "abd"})
	goes(t, waiting.Clone(), step{end: true, fault: fault(api.ErrLex, 3), at: 3, modes: []int{1, 2, 2}, wait: "ab"})
	goes(t, waiting, step{parts: parts("c("), toks: toks(tok(4, 3, 6), tok(6, 6, 7)), at: 7, modes: []int{1, 2, 2, 2}})
	goes(t, x, step{parts: parts("(("), toks: toks(tok(6, 7, 8), tok(6, 8, 9)), at: 9, modes: []int{1, 2, 2, 2}})
	isAt(t, fresh, 0, []int{1}, "", none)
	goes(t, fresh, step{parts: parts("a"), wait: "a"}, step{end: true, toks: toks(tok(2, 0, 1)), at: 1})
	goes(t, fresh.Clone(), step{parts: parts("a"), fault: fault(api.ErrFull, 1), at: 1}, step{end: true, fault: fault(api.ErrFull, 1), at: 1})
	x.Feed("?")
	goes(t, x.Clone(), step{parts: parts("abc"), fault: fault(api.ErrLex, 9), at: 9, modes: []int{1, 2, 2, 2}, wait: "?"})
	if l, f := x.Clone().Clone().End(); len(l) > 0 || f != fault(api.ErrLex, 9) {
		t.Error(l, f)
	}
}

// A clone has told as many tokens as the one that it was made of.
func TestClonesCountTokens(t *testing.T) {
	x := made(t, plain(t, `"a"`))
	x.Feed(strings.Repeat("a", 1<<16-1))
	y := x.Clone()
	goes(t, y, step{parts: parts("aa"), toks: toks(tok(2, 1<<16-1, 1<<16)), fault: fault(api.ErrLong, 1<<16), at: 1 << 16, wait: "a"})
	goes(t, x, step{parts: parts("a"), toks: toks(tok(2, 1<<16-1, 1<<16)), at: 1 << 16})
}

func TestLexersThatNoCallMade(t *testing.T) {
	var plainOne lexer.Lexer
	for name, x := range map[string]*lexer.Lexer{"nil": nil, "a plain one": &plainOne, "a new one": new(lexer.Lexer)} {
		for range 2 { // nothing changes by what was asked
			for _, l := range [][]string{nil, {""}, {"a"}, {"a", "b\xff"}, {strings.Repeat("a", api.MaxSource+1)}} {
				if toks, f := x.Feed(l...); len(toks) > 0 || f != fault(api.ErrNil, 0) {
					t.Error(name, "is fed:", toks, f)
				}
			}
			if toks, f := x.End(); len(toks) > 0 || f != fault(api.ErrNil, 0) {
				t.Error(name, "is ended:", toks, f)
			}
			if x.At() != 0 || len(x.Modes()) > 0 || x.Wait() != "" || x.Fault() != none || x.Clone() != nil {
				t.Error(name, x.At(), x.Modes(), x.Wait(), x.Fault(), x.Clone())
			}
		}
	}
}

func TestANewLexer(t *testing.T) {
	for _, s := range []api.Scanner{scanner(nil), plain(t, `"a"`), scanner(nil, nil, many(t, 3))} {
		isAt(t, made(t, s), 0, []int{1}, "", none)
	}
	// two know nothing of one another
	s := scanner([]api.LexRule{turning(t, `"a"`, 2, 1, false), rule(t, `"bb"`, 3)})
	x, y := made(t, s), made(t, s)
	x.Feed("aab")
	isAt(t, y, 0, []int{1}, "", none)
	y.Feed("?")
	isAt(t, x, 2, []int{1, 1, 1}, "b", none)
	if l, f := x.Feed("b"); !slices.Equal(l, toks(tok(3, 2, 4))) || f != none {
		t.Error(l, f)
	}
}
