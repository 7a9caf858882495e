package dfa

import (
	"slices"

	"quoin/api"
	"quoin/runes"
)

// reached is a state, and how it was first reached: from which one, by its place in the list, and by which class.
type reached struct{ state, from, class int }

// reach is the states that are reached from the first one, in the order in which they are, going through states in that order and through classes in theirs. So the way to each is of the shortest the least.
func reach(first, classes int, step func(s, c int) int) []reached {
	l := []reached{{first, -1, -1}}
	met := map[int]struct{}{first: {}}
	for i := 0; i < len(l); i++ {
		for c := range classes {
			s := step(l[i].state, c)
			if _, again := met[s]; s < 0 || again {
				continue
			}
			met[s] = struct{}{}
			l = append(l, reached{s, i, c})
		}
	}
	return l
}

// textTo is the least text on the way to what was reached.
func textTo(l []reached, i int, lows []rune) []rune {
	var text []rune
	for ; l[i].from >= 0; i = l[i].from {
		text = append(text, lows[l[i].class])
	}
	slices.Reverse(text)
	return text
}

// stepBy is the step of an automaton by classes that begin at lows, none of which is cut by its own; from nowhere it goes nowhere.
func stepBy(d api.Dfa, lows []rune) func(s, c int) int {
	own := make([]int, len(lows))
	for c, low := range lows {
		own[c] = runes.Class(d.Lows, low)
	}
	return func(s, c int) int {
		if s < 0 {
			return -1
		}
		return d.Next[s][own[c]]
	}
}

// Witness is the least of the shortest texts that a rule accepts.
func Witness(d api.Dfa, rule int) ([]rune, bool, api.Errno) {
	if e := Check(d); e != api.OK {
		return nil, false, e
	}
	if rule < 0 {
		return nil, false, api.OK
	}
	l := reach(0, len(d.Lows), stepBy(d, d.Lows))
	i := slices.IndexFunc(l, func(r reached) bool { return d.Rule[r.state] == rule })
	if i < 0 {
		return nil, false, api.OK
	}
	return textTo(l, i, d.Lows), true, api.OK
}
