package expand_test

import (
	"reflect"
	"slices"
	"strconv"
	"strings"
	"testing"

	"quoin/api"
	"quoin/expand"
)

// What follows, P11.4 to P11.6.

// piece is a symbol over a piece of a row.
type piece struct{ symbol, from, to int }

// search finds the values of all derivations of a row, by trying all productions and all ways to cut.
type search struct {
	g     api.Plain
	row   []int
	least []int // of each symbol how many kinds the shortest row has that it derives
	known map[piece][]string
}

func newSearch(g api.Plain, row []int) *search {
	s := &search{g: g, row: row, known: map[piece][]string{}}
	for range g.Kinds {
		s.least = append(s.least, 1)
	}
	for range g.Rules {
		s.least = append(s.least, 1000)
	}
	for range g.Rules {
		for _, p := range g.Prods {
			x := &s.least[len(g.Kinds)+p.Left]
			*x = min(*x, s.leastOf(p.Right))
		}
	}
	return s
}

// leastOf is that of symbols, one behind the other.
func (s *search) leastOf(l []int) int {
	long := 0
	for _, x := range l {
		long += s.least[x]
	}
	return min(long, 1000)
}

// most is how many derivations are told apart; beyond it the search gives up.
const most = 3000

// of are the values of all derivations of a piece by a symbol; nil and false, if there are too many.
func (s *search) of(p piece) ([]string, bool) {
	if p.symbol < len(s.g.Kinds) {
		if p.to-p.from == 1 && s.row[p.from] == p.symbol {
			return []string{s.g.Kinds[p.symbol] + strconv.Itoa(p.from)}, true
		}
		return nil, true
	}
	if l, is := s.known[p]; is {
		return l, len(l) <= most
	}
	var l []string
	for _, x := range s.g.Prods {
		if x.Left != p.symbol-len(s.g.Kinds) {
			continue
		}
		rows, ok := s.cut(x.Right, p.from, p.to)
		if !ok {
			return nil, false
		}
		for _, kids := range rows {
			l = append(l, value(x.Act, kids))
		}
	}
	s.known[p] = l
	return l, len(l) <= most
}

// cut are the values of symbols over a piece, for each way to derive it by them.
func (s *search) cut(right []int, from, to int) ([][]string, bool) {
	if len(right) == 0 {
		if from == to {
			return [][]string{nil}, true
		}
		return nil, true
	}
	var made [][]string
	for at := from + s.least[right[0]]; at+s.leastOf(right[1:]) <= to; at++ { // so that a symbol that leads to its own rule has less than all, if the others take something
		rest, ok := s.cut(right[1:], at, to)
		if !ok {
			return nil, false
		}
		if len(rest) == 0 {
			continue
		}
		first, ok := s.of(piece{right[0], from, at})
		if !ok || len(made)+len(first)*len(rest) > most {
			return nil, false
		}
		for _, x := range first {
			for _, y := range rest {
				made = append(made, append([]string{x}, y...))
			}
		}
	}
	return made, true
}

// value is what an action makes of values.
func value(a api.Act, kids []string) string {
	switch a.Kind {
	case api.ActPick:
		return kids[a.At]
	case api.ActText:
		return strconv.Quote(a.Name)
	case api.ActNode:
		var l []string
		for _, k := range a.Kids {
			l = append(l, value(k, kids))
		}
		return a.Name + "(" + strings.Join(l, ", ") + ")"
	}
	return "-"
}

// values are the values of all derivations of a row, sorted.
func values(g api.Plain, row ...int) ([]string, bool) {
	l, ok := newSearch(g, row).of(piece{len(g.Kinds) + g.Start, 0, len(row)})
	slices.Sort(l)
	return l, ok
}

// rows are all rows of at most so many of some kinds.
func rows(kinds []int, long int) [][]int {
	all := [][]int{nil}
	last := all
	for range long {
		var next [][]int
		for _, r := range last {
			for _, k := range kinds {
				next = append(next, append(slices.Clone(r), k))
			}
		}
		all = append(all, next...)
		last = next
	}
	return all
}

// kindsOf are the numbers of kinds, from the names.
func kindsOf(g api.Plain, names string) []int {
	var l []int
	for _, name := range strings.Fields(names) {
		l = append(l, slices.Index(g.Kinds, name))
	}
	return l
}

// P11.4 by hand: rows, counted.
func TestInliningKeepsRows(t *testing.T) {
	text := "inline rule op = P => Add | Q => Mul($1); inline rule opt(x) = => \"no\" | x => Some($1); rule s = s op s => T($2, $1, $3) | opt(A) B => $1;"
	s, _ := parsed(t, text)
	g, _, d := expand.Grammar(s, "s")
	clear, _, dClear := expand.Grammar(expand.Clear(s), "s")
	if len(d) > 0 || len(dClear) > 0 || len(g.Rules) != 1 || len(clear.Rules) != 3 {
		t.Fatal(d, dClear, g.Rules, clear.Rules)
	}
	for row, want := range map[string][]string{
		"":            nil,
		"A":           nil,
		"B":           {`"no"`},
		"A B":         {"Some(A0)"},
		"B P B":       {`T(Add(), "no", "no")`},
		"A B Q B":     {`T(Mul(Q2), Some(A0), "no")`},
		"B P A B Q B": {`T(Add(), "no", T(Mul(Q4), Some(A2), "no"))`, `T(Mul(Q4), T(Add(), "no", Some(A2)), "no")`},
		"B P":         nil,
		"B B":         nil,
	} {
		for _, x := range []api.Plain{g, clear} {
			if got, ok := values(x, kindsOf(x, row)...); !ok || !slices.Equal(got, want) {
				t.Errorf("%q: %q, want %q", row, got, want)
			}
		}
	}
	// Four operators: as many trees as there are ways to set brackets.
	for _, x := range []api.Plain{g, clear} {
		if got, _ := values(x, kindsOf(x, "B P B Q B P B P B")...); len(got) != 14 {
			t.Error(len(got))
		}
	}
}

// finite makes a tidy module's rules such that each derivation of a row takes finitely many steps: an alternative that leads to its own rule, or to one ahead, has a kind, too.
func (m maker) finite(s *api.Spec) {
	place := map[string]int{}
	for i, r := range s.Rules {
		place[r.Name] = i
	}
	for i := range s.Rules {
		var isBack func(x api.Ref) bool
		isBack = func(x api.Ref) bool {
			at, is := place[x.Name]
			return is && at <= i || slices.ContainsFunc(x.Args, isBack)
		}
		for j := range s.Rules[i].Alts {
			a := &s.Rules[i].Alts[j]
			if slices.ContainsFunc(a.Syms, isBack) {
				a.Syms = append(a.Syms, api.Ref{Name: oneOf(m, []string{"error", "A"})})
			}
		}
	}
}

// P11.4 at random: the same rows, as often, and by the same values.
func TestInliningKeepsValues(t *testing.T) {
	m := newMaker(301)
	inlined, derived, often := 0, 0, 0
	for range 6000 {
		s := m.tidy()
		s.Lex = append([]api.LexLine{{Mode: "main", Name: "A", Re: api.Regex{Kind: api.ReEmpty}}}, s.Lex...)
		m.finite(&s)
		g, _, d := expand.Grammar(s, "s")
		clear, _, dClear := expand.Grammar(expand.Clear(s), "s")
		if len(d) > 0 || len(dClear) > 0 || len(g.Prods) > 200 {
			continue
		}
		if len(g.Rules) < len(clear.Rules) {
			inlined++
		}
		if !slices.Equal(g.Kinds, clear.Kinds) || !slices.Equal(g.Precs, clear.Precs) {
			t.Fatal(textOf(s))
		}
		var kinds []int
		for k := 1; k < min(len(g.Kinds), 4); k++ {
			kinds = append(kinds, k)
		}
		for _, row := range rows(kinds, 3) {
			got, ok := values(g, row...)
			want, okClear := values(clear, row...)
			if !ok || !okClear {
				continue
			}
			if !slices.Equal(got, want) {
				t.Fatalf("%v: %q, cleared %q\n%s", row, got, want, textOf(s))
			}
			if len(got) > 0 && len(g.Rules) < len(clear.Rules) {
				derived++
			}
			if len(got) > 1 && len(g.Rules) < len(clear.Rules) {
				often++
			}
		}
	}
	if inlined < 400 || derived < 1000 || often < 200 {
		t.Error("too few:", inlined, derived, often)
	}
}

// P11.5: no parameter and no inlined rule is left; and a grammar is as layer 12 will have it.
func TestNothingIsLeft(t *testing.T) {
	m := newMaker(302)
	many := 0
	for range 4000 {
		s := m.wild(m.Intn(2))
		g, types, d := expand.Grammar(s, "s")
		if len(d) > 0 {
			continue
		}
		many++
		stands := make([]int, len(g.Rules))
		for _, p := range g.Prods {
			for _, x := range p.Right {
				if x <= api.KindEnd || x >= len(g.Kinds)+len(g.Rules) {
					t.Fatal(x, textOf(s))
				}
				if x >= len(g.Kinds) {
					stands[x-len(g.Kinds)]++
				}
			}
			if p.Left < 0 || p.Left >= len(g.Rules) || len(p.Right) > 64 || p.Level < 0 || p.Level > len(s.Precs) || !mayBe(p.Act, len(p.Right)) || wordParts(p.Act) > 256 {
				t.Fatal(p, textOf(s))
			}
		}
		if i := slices.Index(stands[1:], 0); i >= 0 || g.Start != 0 || g.Rules[0] != "s" || len(types) != len(g.Rules) || len(g.Precs) != len(g.Kinds) {
			t.Fatal(g.Rules, types, textOf(s))
		}
		for i, text := range g.Rules {
			name, _, _ := strings.Cut(text, "(")
			r := wordRule(s, name)
			if r == nil || r.Inline || types[i] != r.Type || slices.Index(g.Rules, text) != i || slices.Contains(g.Kinds, text) {
				t.Fatal(text, textOf(s))
			}
			for _, word := range strings.FieldsFunc(text, func(c rune) bool { return strings.ContainsRune("(), ", c) }) {
				if wordRule(s, word) == nil && !slices.Contains(g.Kinds[1:], word) {
					t.Fatal(text, textOf(s))
				}
			}
		}
	}
	if many < 2000 {
		t.Error("too few:", many)
	}
}

// mayBe tells whether an action may stand in a production of so many symbols.
func mayBe(a api.Act, symbols int) bool {
	for _, k := range a.Kids {
		if !mayBe(k, symbols) {
			return false
		}
	}
	switch a.Kind {
	case api.ActNone:
		return told(a) == told(none)
	case api.ActPick:
		return a.At >= 0 && a.At < symbols && told(a) == told(pick(a.At))
	case api.ActText:
		return told(a) == told(text(a.Name))
	}
	return a.Kind == api.ActNode && a.At == 0 && a.Name != ""
}

// grown is all that Grammar tells, places aside.
func grown(s api.Spec, start string) string {
	g, types, d := expand.Grammar(s, start)
	for i := range d {
		d[i].At = 0
	}
	return told(g) + told(types) + told(d)
}

// P11.6: places have no part.
func TestPlacesHaveNoPart(t *testing.T) {
	m := newMaker(303)
	for range 1500 {
		s := m.wild(m.Intn(3))
		other := clone(s)
		for i := range other.Lex {
			other.Lex[i].At = m.Int()
		}
		for i := range other.Precs {
			other.Precs[i].At = -m.Int()
		}
		for i := range other.Rules {
			other.Rules[i].At = m.Intn(5) - 2
			for j := range other.Rules[i].Alts {
				a := &other.Rules[i].Alts[j]
				a.At = m.Intn(9)
				var move func(l []api.Ref)
				move = func(l []api.Ref) {
					for k := range l {
						l[k].At = m.Intn(7) - 3
						move(l[k].Args)
					}
				}
				move(a.Syms)
			}
		}
		if grown(s, "s") != grown(other, "s") {
			t.Fatal(textOf(s))
		}
		likeWords(t, other, "s")
	}
}

// P11.6: the names of parameters have no part.
func TestParametersHaveNoPart(t *testing.T) {
	m := newMaker(304)
	for range 1500 {
		s := m.tidy()
		other := clone(s)
		for i := range other.Rules {
			r := &other.Rules[i]
			names := []string{"a", "b", "x", "y", "z", "L", "s0"}
			m.Shuffle(len(names), func(i, j int) { names[i], names[j] = names[j], names[i] })
			now := map[string]string{}
			for j, p := range r.Params {
				now[p] = names[j]
				r.Params[j] = names[j]
			}
			var rename func(l []api.Ref)
			rename = func(l []api.Ref) {
				for k := range l {
					if name, is := now[l[k].Name]; is {
						l[k].Name = name
					}
					rename(l[k].Args)
				}
			}
			for j := range r.Alts {
				rename(r.Alts[j].Syms)
			}
		}
		if len(expand.Check(s, "s")) > 0 || grown(s, "s") != grown(other, "s") {
			t.Fatal(textOf(s), textOf(other))
		}
	}
}

// P11.6: a rule that nothing leads to leaves the grammar as it is, whatever it has.
func TestRulesThatNothingLeadsTo(t *testing.T) {
	m := newMaker(305)
	for range 1500 {
		s := m.tidy()
		other := clone(s)
		r := api.RuleLine{Name: oneOf(m, []string{"a", "zz"}), Inline: m.bool(), Params: []string{"x", "y"}[:m.Intn(3)], Type: "V"}
		args := make([]api.Ref, len(r.Params))
		for i := range args {
			args[i] = api.Ref{Name: r.Params[m.Intn(len(r.Params))]}
		}
		other.Rules = slices.Insert(other.Rules, m.Intn(len(other.Rules)+1), r)
		for i := range other.Rules {
			if other.Rules[i].Name == r.Name {
				m.body(other, &other.Rules[i])
				a := &other.Rules[i].Alts[0]
				a.Syms = append(a.Syms, api.Ref{Name: r.Name, Args: args}) // it leads to itself
			}
		}
		if grown(s, "s") != grown(other, "s") {
			t.Fatal(textOf(s), textOf(other))
		}
		likeWords(t, other, "s")
	}
	// Uses, types, starts, modes, expressions count for nothing, either.
	for range 500 {
		s := m.tidy()
		other := clone(s)
		other.Uses = []api.Use{{Module: "L"}, {Module: "M", Names: []api.Rename{{Name: "s", As: "r0"}}}}
		other.Datas = []api.DataLine{{Data: api.Data{Name: "T", Ctors: []api.Ctor{{Name: "s"}, {Name: "A"}}}}}
		other.Starts = []string{"r0", "q", "s"}
		for i := range other.Lex {
			other.Lex[i].Mode, other.Lex[i].Push, other.Lex[i].Pop = "in", "zz", m.bool()
			other.Lex[i].Re = api.Regex{Kind: api.ReSet, Set: []api.Range{{Lo: 'a', Hi: 'c'}}}
		}
		for i := range other.Rules {
			other.Rules[i].Open = !other.Rules[i].Open
		}
		if grown(s, "s") != grown(other, "s") || !reflect.DeepEqual(expand.Kinds(s), expand.Kinds(other)) {
			t.Fatal(textOf(s), textOf(other))
		}
	}
}
