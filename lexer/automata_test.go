package lexer_test

import (
	"math/rand"
	"slices"
	"testing"

	"quoin/api"
	"quoin/dfa"
	"quoin/lexer"
	"quoin/regex"
)

// Y2: the modes' automata, and the rules that never match

func sameAuto(a, b api.Dfa) bool {
	return slices.Equal(a.Lows, b.Lows) && slices.Equal(a.Rule, b.Rule) && slices.EqualFunc(a.Next, b.Next, slices.Equal)
}

// autosOf are the automata by the words.
func autosOf(t *testing.T, s api.Scanner) []api.Dfa {
	t.Helper()
	var autos []api.Dfa
	for _, rules := range s.Modes {
		var l []api.Regex
		for _, r := range rules {
			l = append(l, r.Re)
		}
		if len(l) == 0 {
			l = []api.Regex{{Kind: api.ReNone}}
		}
		d, e := dfa.Build(l...)
		if e != api.OK {
			t.Fatal(e)
		}
		autos = append(autos, d)
	}
	return autos
}

// hiddenOf are a mode's hidden rules by the words: of a rule that is not hidden some row of a text's runes is taken by it and by no earlier one.
func hiddenOf(t *testing.T, rules []api.LexRule) []int {
	t.Helper()
	var l []int
	for n, r := range rules {
		left := []api.Regex{r.Re}
		for _, ahead := range rules[:n] {
			not, e := regex.Not(ahead.Re)
			if e != api.OK {
				t.Fatal(e)
			}
			left = append(left, not)
		}
		alone, e := regex.And(left...)
		if e != api.OK {
			t.Fatal(e)
		}
		if a := newAsked(); !a.any(a.number(alone)) {
			l = append(l, n)
		}
	}
	return l
}

func TestAutomataAndHiddenOfSomeScanners(t *testing.T) {
	chance := rand.New(rand.NewSource(61))
	hidden, shown := 0, 0
	for range 600 {
		s := someScanner(t, chance)
		autos, e := lexer.Automata(s)
		if e != api.OK || !slices.EqualFunc(autos, autosOf(t, s), sameAuto) {
			t.Fatal(autos, e)
		}
		l, e := lexer.Hidden(s)
		if e != api.OK || len(l) != len(s.Modes) {
			t.Fatal(l, e)
		}
		for i, rules := range s.Modes {
			if want := hiddenOf(t, rules); !slices.Equal(l[i], want) {
				t.Fatal(rules, l[i], want)
			}
			hidden += len(l[i])
			shown += len(rules) - len(l[i])
		}
	}
	if hidden < 300 || shown < 300 {
		t.Error("too few of one sort", hidden, shown)
	}
}

func TestAutomataOfModesWithoutRules(t *testing.T) {
	nothing := api.Dfa{Lows: []rune{0}, Next: [][]int{{-1}}, Rule: []int{-1}}
	autos, e := lexer.Automata(scanner(nil, many(t, 1), []api.LexRule{}))
	if e != api.OK || len(autos) != 3 || !sameAuto(autos[0], nothing) || !sameAuto(autos[2], nothing) || len(autos[1].Rule) != 2 {
		t.Error(autos, e)
	}
	l, e := lexer.Hidden(scanner(nil, many(t, 1), []api.LexRule{}))
	if e != api.OK || len(l) != 3 || len(l[0])+len(l[1])+len(l[2]) > 0 {
		t.Error(l, e)
	}
}

func TestAutomataKeepWhatComesOfNoText(t *testing.T) {
	s := plain(t, `"a" [\u{d800}-\u{dfff}]`, `[\u{d900}]`)
	autos, e := lexer.Automata(s)
	if e != api.OK || !slices.EqualFunc(autos, autosOf(t, s), sameAuto) {
		t.Error(autos, e)
	}
	if n, e := dfa.Accept(autos[0], 'a', 0xDFFF); n != 0 || e != api.OK {
		t.Error(n, e)
	}
}

// hides asks which rules of a mode are hidden.
func hides(t *testing.T, want []int, l ...string) {
	t.Helper()
	s := plain(t, l...)
	for i := range s.Modes[0] {
		s.Modes[0][i].Kind = 7 * (i % 2) // what a rule tells does not count
	}
	got, e := lexer.Hidden(s)
	if e != api.OK || len(got) != 1 || !slices.Equal(got[0], want) {
		t.Error(l, got, e, want)
	}
}

func TestHidden(t *testing.T) {
	hides(t, nil, `"if"`, `[a-z]+`)
	hides(t, []int{1}, `[a-z]+`, `"if"`)
	hides(t, []int{1, 2}, `"a"`, `"a"`, `"a"`)
	hides(t, []int{2}, `[a-f]`, `[d-z]`, `[a-z]`)                          // by several together
	hides(t, nil, `[a-f]`, `[d-y]`, `[a-z]`)                               // but z
	hides(t, []int{2, 3}, `"a"`, `"b"+`, `[ab]`, `"bb"`)                   // by one and by several
	hides(t, []int{0}, `[]`)                                               // it takes nothing
	hides(t, []int{1}, `"a"`, `"a" & "b"`, `"c"`)                          // likewise
	hides(t, []int{0, 2}, `[]`, `.+`, `.`)                                 //
	hides(t, nil, `"a"`, `"aa"`, `"a"+`)                                   // but aaa
	hides(t, []int{3}, `"a"`, `"aa"`, `"a"{3,}`, `"a"+`)                   //
	hides(t, nil, `"a" .`, `"a"`)                                          // longer ones hide nothing that is shorter
	hides(t, []int{0, 1}, `[\u{d800}-\u{dfff}]`, `[\u{dabc}]+ "a"`, `"a"`) // no text has these
	hides(t, []int{1}, `[\u{d7ff}\u{e000}]`, `[\u{d7ff}-\u{e000}]`)
	hides(t, []int{2}, `[\u{0}-\u{d7ff}]`, `[\u{e000}-\u{10ffff}]`, `.`)
	hides(t, nil, `[\u{d800}-\u{e000}]`, `[\u{d7ff}-\u{dfff}]`)
	hides(t, []int{1}, `"a"`, `"a" | "b" [\u{d800}]`)
}

func TestHiddenIsToldModeByMode(t *testing.T) {
	// a mode that no rule leads into has matches, too; a rule that only fails in a run is one of a match
	s := scanner(
		[]api.LexRule{turning(t, `"a"`, 2, 0, true), turning(t, `"a"`, 2, 2, false)},
		nil,
		[]api.LexRule{rule(t, `.`, 0), rule(t, `"b"`, 2), rule(t, `"bb"`, 2), rule(t, `"c"`, 2)},
	)
	l, e := lexer.Hidden(s)
	if e != api.OK || !slices.EqualFunc(l, [][]int{{1}, {}, {1, 3}}, slices.Equal) {
		t.Error(l, e)
	}
}
