package spec_test

import (
	"math/rand"
	"slices"
	"testing"

	"quoin/api"
	"quoin/lexer"
	"quoin/spec"
)

// Q3: Modes and Lexer.

// lines are LexLines of modes, names and pushes.
func lines(l ...[3]string) api.Spec {
	var s api.Spec
	for i, x := range l {
		re := api.Regex{Kind: api.ReSet, Set: []api.Range{{Lo: rune('a' + i), Hi: rune('a' + i)}}}
		s.Lex = append(s.Lex, api.LexLine{Mode: x[0], Name: x[1], Re: re, Push: x[2], Pop: i%2 == 1, At: 7})
	}
	return s
}

func TestModes(t *testing.T) {
	for _, c := range []struct{ modes, want []string }{
		{nil, []string{"main"}},
		{[]string{"main"}, []string{"main"}},
		{[]string{"x"}, []string{"main", "x"}},
		{[]string{"x", "main", "y", "x", "main"}, []string{"main", "x", "y"}},
		{[]string{"y", "x", "y", "z", "x"}, []string{"main", "y", "x", "z"}},
		{[]string{"main", "x", "main"}, []string{"main", "x"}},
		{[]string{"", "rule", "", "9"}, []string{"main", "", "rule", "9"}},
	} {
		var l [][3]string
		for _, m := range c.modes {
			l = append(l, [3]string{m, "A", "pushed"})
		}
		if got := spec.Modes(lines(l...)); !slices.Equal(got, c.want) {
			t.Error(c.modes, got)
		}
	}
	if got := spec.Modes(parsed(t, "module M; mode b; mode a; skip = [a] push c; mode b; skip = [b];")); !slices.Equal(got, []string{"main", "a", "b"}) {
		t.Error(got)
	}
}

// lexerByWords is what Lexer must tell, mode by mode.
func lexerByWords(s api.Spec, modes, kinds []string) (api.Scanner, api.Errno) {
	for _, l := range s.Lex {
		if !slices.Contains(modes, l.Mode) || l.Push != "" && !slices.Contains(modes, l.Push) {
			return api.Scanner{}, api.ErrMode
		}
		if l.Name != "" && (!slices.Contains(kinds, l.Name) || slices.Contains(kinds[:min(2, len(kinds))], l.Name)) {
			return api.Scanner{}, api.ErrKind
		}
	}
	var made api.Scanner
	for i, m := range modes {
		var rules []api.LexRule
		for _, l := range s.Lex {
			if l.Mode != m || slices.Contains(modes[:i], m) {
				continue
			}
			r := api.LexRule{Re: l.Re, Pop: l.Pop}
			if l.Push != "" {
				r.Push = 1 + slices.Index(modes, l.Push)
			}
			if l.Name != "" {
				r.Kind = slices.Index(kinds, l.Name)
			}
			rules = append(rules, r)
		}
		made.Modes = append(made.Modes, rules)
	}
	return made, api.OK
}

// lexerLikeWords holds Lexer against the words.
func lexerLikeWords(t *testing.T, s api.Spec, modes []string, kinds ...string) (api.Scanner, api.Errno) {
	t.Helper()
	got, e := spec.Lexer(s, modes, kinds...)
	want, why := lexerByWords(s, modes, kinds)
	if e != why || told(got, true) != told(want, true) {
		t.Fatalf("%v %v %v: %v %v, want %v %v", s.Lex, modes, kinds, got, e, want, why)
	}
	return got, e
}

func TestLexer(t *testing.T) {
	s := lines([3]string{"main", "A", "in"}, [3]string{"in", "", ""}, [3]string{"main", "", "main"}, [3]string{"in", "B", "in"}, [3]string{"main", "B", ""})
	got, e := lexerLikeWords(t, s, []string{"main", "in"}, "end", "error", "A", "B")
	re := func(i int) api.Regex { return s.Lex[i].Re }
	want := api.Scanner{Modes: [][]api.LexRule{
		{{Re: re(0), Kind: 2, Push: 2}, {Re: re(2), Push: 1}, {Re: re(4), Kind: 3}},
		{{Re: re(1), Pop: true}, {Re: re(3), Kind: 3, Push: 2, Pop: true}},
	}}
	if e != api.OK || told(got, true) != told(want, true) {
		t.Error(got, e)
	}
	got, e = lexerLikeWords(t, s, []string{"other", "in", "main", "in"}, "x", "y", "B", "A", "B", "A")
	want = api.Scanner{Modes: [][]api.LexRule{
		nil,
		{{Re: re(1), Pop: true}, {Re: re(3), Kind: 2, Push: 2, Pop: true}},
		{{Re: re(0), Kind: 3, Push: 2}, {Re: re(2), Push: 3}, {Re: re(4), Kind: 2}},
		nil,
	}}
	if e != api.OK || told(got, true) != told(want, true) {
		t.Error(got, e)
	}
	for _, c := range []struct {
		modes, kinds []string
		want         api.Errno
	}{
		{[]string{"main"}, []string{"end", "error", "A", "B"}, api.ErrMode}, // the first line's push
		{[]string{"in"}, []string{"end", "error", "A", "B"}, api.ErrMode},
		{nil, nil, api.ErrMode},
		{[]string{"in", "Main"}, []string{"end", "error", "A", "B"}, api.ErrMode},
		{[]string{"in", "main"}, []string{"end", "error", "A"}, api.ErrKind},
		{[]string{"in", "main"}, []string{"end", "error", "B"}, api.ErrKind},
		{[]string{"in", "main"}, []string{"A", "error", "A", "B"}, api.ErrKind}, // the first A counts
		{[]string{"in", "main"}, []string{"end", "B", "A", "B"}, api.ErrKind},
		{[]string{"in", "main"}, []string{"A", "B"}, api.ErrKind},
		{[]string{"in", "main"}, nil, api.ErrKind},
		{[]string{"in", "main"}, []string{"", "", "B", "A"}, api.OK},
	} {
		if _, e := lexerLikeWords(t, s, c.modes, c.kinds...); e != c.want {
			t.Error(c, e)
		}
	}
}

// The first line with which something is wrong is told; of one line the mode first.
func TestLexerFirstWrong(t *testing.T) {
	badMode, badPush, badKind := [3]string{"x", "A", ""}, [3]string{"main", "A", "x"}, [3]string{"main", "Z", ""}
	good, both := [3]string{"main", "A", "main"}, [3]string{"main", "Z", "x"}
	for _, c := range []struct {
		l    [][3]string
		want api.Errno
	}{
		{[][3]string{good, badMode}, api.ErrMode}, {[][3]string{good, badPush}, api.ErrMode}, {[][3]string{good, badKind}, api.ErrKind},
		{[][3]string{both}, api.ErrMode}, {[][3]string{{"x", "Z", "x"}}, api.ErrMode}, {[][3]string{{"x", "end", ""}}, api.ErrMode},
		{[][3]string{badKind, badMode}, api.ErrKind}, {[][3]string{badMode, badKind}, api.ErrMode}, {[][3]string{badKind, badPush}, api.ErrKind},
		{[][3]string{{"main", "end", ""}}, api.ErrKind}, {[][3]string{{"main", "error", ""}}, api.ErrKind}, {[][3]string{{"main", "", "x"}}, api.ErrMode},
		{[][3]string{good, {"main", "", ""}, good}, api.OK},
	} {
		if _, e := lexerLikeWords(t, lines(c.l...), []string{"main"}, "end", "error", "A"); e != c.want {
			t.Error(c, e)
		}
	}
}

func TestLexerAtRandom(t *testing.T) {
	r := rand.New(rand.NewSource(83))
	few := []string{"", "main", "a", "b", "c"}
	oks := 0
	for range 20000 {
		var l [][3]string
		for range r.Intn(5) {
			l = append(l, [3]string{few[1+r.Intn(3)], few[r.Intn(5)], few[r.Intn(4)]})
		}
		var modes, kinds []string
		for range r.Intn(6) {
			modes = append(modes, few[r.Intn(5)])
		}
		for range r.Intn(8) {
			kinds = append(kinds, few[r.Intn(5)])
		}
		if _, e := lexerLikeWords(t, lines(l...), modes, kinds...); e == api.OK && len(l) > 0 {
			oks++
		}
	}
	if oks < 300 {
		t.Error("too few:", oks)
	}
}

// Nothing else is looked at: neither what else the tree has, nor its expressions, nor how many modes, kinds and lines there are.
func TestLexerLooksAtNothingElse(t *testing.T) {
	s := plainTree()
	s.Name, s.Starts, s.Precs[0].Assoc = "", []string{"", "9"}, 99
	s.Lex[0].Re = api.Regex{Kind: 55, Set: []api.Range{{Lo: 9, Hi: 1}}, Kids: []api.Regex{{Kind: api.ReCat}}}
	s.Lex[0].Push = "main"
	lexerLikeWords(t, s, []string{"main"}, "", "", "T")
	many := api.Spec{Lex: repeated(1000, api.LexLine{Mode: "m", Name: "t"})}
	modes, kinds := repeated(5000, "n"), repeated(5000, "u")
	got, e := lexerLikeWords(t, many, append(modes, "m"), append(kinds, "t")...)
	if e != api.OK || len(got.Modes) != 5001 || len(got.Modes[5000]) != 1000 || got.Modes[5000][7].Kind != 5000 {
		t.Error(e)
	}
	if got, e := spec.Lexer(api.Spec{}, nil); e != api.OK || len(got.Modes) != 0 {
		t.Error(got, e)
	}
}

// A module's scanner is one that layer 6 takes.
func TestLexerScans(t *testing.T) {
	s := parsed(t, `module M; token Num = [0-9]+; token Open = "(" push in; skip = " "; mode in; token Close = ")" pop; skip = !(.* ")" .*) & .+;`)
	x, e := spec.Lexer(s, spec.Modes(s), "end", "error", "Num", "Open", "Close")
	if e != api.OK {
		t.Fatal(e)
	}
	l, f := lexer.All(x, "12 (a b 3) 4")
	want := []api.Tok{{Kind: 2, From: 0, To: 2}, {Kind: 3, From: 3, To: 4}, {Kind: 4, From: 9, To: 10}, {Kind: 2, From: 11, To: 12}}
	if f != (api.Fault{}) || !slices.Equal(l, want) {
		t.Error(l, f)
	}
}
