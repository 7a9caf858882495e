package lexer

import (
	"slices"

	"quoin/api"
	"quoin/dfa"
)

// mode is what a run needs of a scanner's mode. Nothing changes it, so that clones share it.
type mode struct {
	rules []api.LexRule // without their expressions
	auto  api.Dfa       // what they take of texts
	last  []bool        // whether a match ends in a state, whatever comes behind it
}

// modesOf are a scanner's modes.
func modesOf(s api.Scanner) ([]mode, api.Errno) {
	autos, e := Automata(s)
	if e != api.OK {
		return nil, e
	}
	l := make([]mode, 0, len(autos))
	for i, d := range autos {
		m := mode{auto: ofTexts(d)}
		for _, r := range s.Modes[i] {
			m.rules = append(m.rules, api.LexRule{Kind: r.Kind, Push: r.Push, Pop: r.Pop})
		}
		for state, row := range m.auto.Next {
			m.last = append(m.last, m.auto.Rule[state] >= 0 && slices.Max(row) < 0)
		}
		l = append(l, m)
	}
	return l, api.OK
}

// The numbers that expressions may have in their sets, but that come of no text.
const (
	firstOfNoText = 0xD800
	lastOfNoText  = 0xDFFF
)

// ofTexts is the least automaton that accepts what d does, which it turns, as far as it comes of texts: what can't come is not waited for, and hides nothing.
func ofTexts(d api.Dfa) api.Dfa {
	all := true
	for class := range d.Lows {
		if comes(d.Lows, class) {
			continue
		}
		all = false
		for _, row := range d.Next {
			row[class] = -1
		}
	}
	if all {
		return d
	}
	l, _ := dfa.Least(d) // what Build answers may be, and so it may without some steps
	return l
}

// comes tells whether a rune of a class comes of some text.
func comes(lows []rune, class int) bool {
	if lows[class] < firstOfNoText {
		return true
	}
	high := rune(api.MaxRune)
	if class+1 < len(lows) {
		high = lows[class+1] - 1
	}
	return high > lastOfNoText
}

// step is where a state goes by a rune; dfa.Step would look the whole automaton through each time.
func (m *mode) step(state int, c rune) int {
	class, there := slices.BinarySearch(m.auto.Lows, c)
	if !there {
		class--
	}
	return m.auto.Next[state][class]
}

// hidden are the rules by which no text is accepted: every state of a least automaton is reached.
func (m *mode) hidden() []int {
	var l []int
	for rule := range m.rules {
		if !slices.Contains(m.auto.Rule, rule) {
			l = append(l, rule)
		}
	}
	return l
}
