package lexer_test

import (
	"math/rand"
	"slices"
	"testing"

	"quoin/api"
	"quoin/lexer"
)

// DOC.md's R4: what is handed in is not changed and not kept, what is answered is new memory

// roomy is a list with room behind its end in which marks stand.
func roomy[T any](l []T, marks ...T) []T {
	return append(slices.Clone(l), marks...)[:len(l)]
}

// fill overwrites a list, and the room behind it.
func fill[T any](l []T, x T) {
	for i := range l[:cap(l)] {
		l[:cap(l)][i] = x
	}
}

func markedRegex(r api.Regex) api.Regex {
	m := api.Regex{Kind: r.Kind, Set: roomy(r.Set, api.Range{Lo: -7, Hi: 3})}
	for _, k := range r.Kids {
		m.Kids = append(m.Kids, markedRegex(k))
	}
	m.Kids = roomy(m.Kids, api.Regex{Kind: -7})
	return m
}

func wholeRegex(r api.Regex) api.Regex {
	w := api.Regex{Kind: r.Kind, Set: slices.Clone(r.Set[:cap(r.Set)])}
	for _, k := range r.Kids[:cap(r.Kids)] {
		w.Kids = append(w.Kids, wholeRegex(k))
	}
	return w
}

func sameRegex(a, b api.Regex) bool {
	return a.Kind == b.Kind && slices.Equal(a.Set, b.Set) && slices.EqualFunc(a.Kids, b.Kids, sameRegex)
}

func sameRule(a, b api.LexRule) bool {
	return a.Kind == b.Kind && a.Push == b.Push && a.Pop == b.Pop && sameRegex(a.Re, b.Re)
}

func sameScanner(a, b api.Scanner) bool {
	return slices.EqualFunc(a.Modes, b.Modes, func(x, y []api.LexRule) bool { return slices.EqualFunc(x, y, sameRule) })
}

// marked is a scanner with room behind each list.
func marked(s api.Scanner) api.Scanner {
	var m api.Scanner
	for _, rules := range s.Modes {
		var l []api.LexRule
		for _, r := range rules {
			l = append(l, api.LexRule{Re: markedRegex(r.Re), Kind: r.Kind, Push: r.Push, Pop: r.Pop})
		}
		m.Modes = append(m.Modes, roomy(l, api.LexRule{Kind: -7}, api.LexRule{Push: 9}))
	}
	m.Modes = roomy(m.Modes, []api.LexRule{{Kind: -7}})
	return m
}

// whole is a scanner with the room behind its lists.
func whole(s api.Scanner) api.Scanner {
	var w api.Scanner
	for _, rules := range s.Modes[:cap(s.Modes)] {
		var l []api.LexRule
		for _, r := range rules[:cap(rules)] {
			l = append(l, api.LexRule{Re: wholeRegex(r.Re), Kind: r.Kind, Push: r.Push, Pop: r.Pop})
		}
		w.Modes = append(w.Modes, l)
	}
	return w
}

func spoilRegex(r api.Regex) {
	for _, k := range r.Kids[:cap(r.Kids)] {
		spoilRegex(k)
	}
	fill(r.Set, api.Range{Lo: 'a', Hi: 'z'})
	fill(r.Kids, api.Regex{Kind: 99})
}

// spoil overwrites all of a scanner.
func spoil(s api.Scanner) {
	for _, rules := range s.Modes[:cap(s.Modes)] {
		for _, r := range rules[:cap(rules)] {
			spoilRegex(r.Re)
		}
		fill(rules, api.LexRule{Kind: 77, Push: 77, Pop: true})
	}
	fill(s.Modes, nil)
}

func spoilAuto(d api.Dfa) {
	fill(d.Lows, -9)
	fill(d.Rule, -9)
	for _, row := range d.Next {
		fill(row, -9)
	}
	fill(d.Next, nil)
}

func TestScannersAreNotChangedAndNotKept(t *testing.T) {
	chance := rand.New(rand.NewSource(70))
	for range 300 {
		s, src := marked(someScanner(t, chance)), someText(chance, 12)
		kept := whole(s)
		lexer.Check(s)
		lexer.Automata(s)
		lexer.Hidden(s)
		want, f := lexer.All(s, src)
		x := made(t, s)
		y := x.Clone()
		if !sameScanner(whole(s), kept) {
			t.Fatal("a scanner is changed")
		}
		spoil(s)
		for _, x := range []*lexer.Lexer{x, y} {
			l, _ := x.Feed(src)
			more, _ := x.End()
			tells(t, append(l, more...), x.Fault(), f, want...)
		}
	}
}

func TestAutomataAreNew(t *testing.T) {
	chance := rand.New(rand.NewSource(71))
	for range 100 {
		s, src := someScanner(t, chance), someText(chance, 12)
		want := autosOf(t, s)
		x := made(t, s)
		l, _ := lexer.Automata(s)
		second, _ := lexer.Automata(s)
		for i := range l {
			spoilAuto(l[i])
			if !slices.EqualFunc(l[i+1:], want[i+1:], sameAuto) {
				t.Fatal("two modes' automata share memory")
			}
		}
		fill(l, api.Dfa{})
		if !slices.EqualFunc(second, want, sameAuto) {
			t.Fatal("two answers share memory")
		}
		m := newMeant(s)
		x.Feed(src)
		m.feed(src)
		stands(t, x, m)
	}
}

func TestHiddenIsNew(t *testing.T) {
	s := scanner(plain(t, `"a"`, `"a"`, `"a"`).Modes[0], plain(t, `"b"`, `[]`).Modes[0], nil, plain(t, `[]`).Modes[0])
	want := [][]int{{1, 2}, {1}, {}, {0}}
	l, _ := lexer.Hidden(s)
	second, _ := lexer.Hidden(s)
	for i := range l {
		fill(l[i], -9)
		if !slices.EqualFunc(l[i+1:], want[i+1:], slices.Equal) {
			t.Fatal("two modes' lists share memory")
		}
	}
	fill(l, nil)
	if !slices.EqualFunc(second, want, slices.Equal) {
		t.Error("two answers share memory")
	}
}

func TestTokensAndModesAreNew(t *testing.T) {
	chance := rand.New(rand.NewSource(72))
	for range 400 {
		s, src := someScanner(t, chance), someText(chance, 16)
		all, f := lexer.All(s, src)
		want := slices.Clone(all)
		fill(all, api.Tok{Kind: -9})
		again, g := lexer.All(s, src)
		tells(t, again, g, f, want...)
		x, m := made(t, s), newMeant(s)
		for _, part := range cut(chance, src) {
			list := roomy([]string{part[:len(part)/2], part[len(part)/2:]}, "a", "b")
			kept := slices.Clone(list[:cap(list)])
			l, g := x.Feed(list...)
			if !slices.Equal(list[:cap(list)], kept) {
				t.Fatal("the parts are changed")
			}
			fill(list, "?")
			toks, want := m.feed(part)
			tells(t, l, g, want, toks...)
			fill(l, api.Tok{Kind: -9})
			first, second := x.Modes(), x.Modes()
			fill(first, 9)
			if !slices.Equal(second, m.modes) {
				t.Fatal("two answers share memory")
			}
			fill(second, 9)
			clone := x.Clone()
			fill(clone.Modes(), 9)
			stands(t, x, m)
		}
		l, g := x.End()
		toks, end := m.end()
		tells(t, l, g, end, toks...)
	}
}
