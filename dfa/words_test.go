package dfa_test

import (
	"math/rand"
	"slices"
	"strings"
	"testing"

	"quoin/api"
	"quoin/dfa"
	"quoin/regex"
	"quoin/runes"
)

// The chapter's words by the letter: classes are looked for one by one, states are held against each other pair by pair, texts are tried in their order.

// parse is an expression that is written right.
func parse(t testing.TB, s string) api.Regex {
	t.Helper()
	r, f := regex.Parse(s)
	if f != (api.Fault{}) {
		t.Fatal(s, f)
	}
	return r
}

// parsed are expressions that are written right.
func parsed(t testing.TB, l ...string) []api.Regex {
	t.Helper()
	var all []api.Regex
	for _, s := range l {
		all = append(all, parse(t, s))
	}
	return all
}

// built is what Build makes of expressions that it must not refuse.
func built(t testing.TB, l ...api.Regex) api.Dfa {
	t.Helper()
	d, e := dfa.Build(l...)
	if e != api.OK {
		t.Fatal("not built:", e)
	}
	return d
}

// auto is an automaton of rows, each of which begins with the rule.
func auto(lows []rune, rows ...[]int) api.Dfa {
	d := api.Dfa{Lows: slices.Clone(lows)}
	for _, row := range rows {
		d.Rule = append(d.Rule, row[0])
		d.Next = append(d.Next, slices.Clone(row[1:]))
	}
	return d
}

func same(a, b api.Dfa) bool {
	return slices.Equal(a.Lows, b.Lows) && slices.Equal(a.Rule, b.Rule) && slices.EqualFunc(a.Next, b.Next, slices.Equal)
}

func copied(d api.Dfa) api.Dfa {
	c := api.Dfa{Lows: slices.Clone(d.Lows), Rule: slices.Clone(d.Rule)}
	for _, row := range d.Next {
		c.Next = append(c.Next, slices.Clone(row))
	}
	return c
}

// mayBe tells whether an automaton may be.
func mayBe(d api.Dfa) bool {
	if len(d.Lows) < 1 || len(d.Rule) < 1 || len(d.Next) != len(d.Rule) || d.Lows[0] != 0 {
		return false
	}
	for i := range d.Lows {
		if d.Lows[i] > 0x10FFFF || i > 0 && d.Lows[i] <= d.Lows[i-1] {
			return false
		}
	}
	for s := range d.Rule {
		if d.Rule[s] < -1 || len(d.Next[s]) != len(d.Lows) {
			return false
		}
		for _, to := range d.Next[s] {
			if to < -1 || to >= len(d.Rule) {
				return false
			}
		}
	}
	return true
}

// stepOf is where a state, or nowhere, goes by a rune.
func stepOf(d api.Dfa, s int, c rune) int {
	if s < 0 || c < 0 || c > 0x10FFFF {
		return -1
	}
	to := -1
	for i, low := range d.Lows {
		if low <= c {
			to = d.Next[s][i]
		}
	}
	return to
}

func ruleAt(d api.Dfa, s int) int {
	if s < 0 {
		return -1
	}
	return d.Rule[s]
}

// acceptOf is the rule by which a text is accepted.
func acceptOf(d api.Dfa, text []rune) int {
	s := 0
	for _, c := range text {
		s = stepOf(d, s, c)
	}
	return ruleAt(d, s)
}

// alikeOf tells of all states of an automaton, nowhere behind the last, which two accept alike: none are left that a rule or a step parts.
func alikeOf(d api.Dfa) [][]bool {
	n := len(d.Rule)
	at := func(s int) int {
		if s == n {
			return -1
		}
		return s
	}
	alike := make([][]bool, n+1)
	for s := range alike {
		for t := range n + 1 {
			alike[s] = append(alike[s], ruleAt(d, at(s)) == ruleAt(d, at(t)))
		}
	}
	for turned := true; turned; {
		turned = false
		for s := range n + 1 {
			for t := range n + 1 {
				for _, c := range d.Lows {
					x, y := stepOf(d, at(s), c), stepOf(d, at(t), c)
					if alike[s][t] && !alike[(x+n+1)%(n+1)][(y+n+1)%(n+1)] {
						alike[s][t], turned = false, true
					}
				}
			}
		}
	}
	return alike
}

// leastOf is the automaton that accepts the same with the fewest states and classes.
func leastOf(d api.Dfa) api.Dfa {
	alike := alikeOf(d)
	nowhere := len(d.Rule)
	met := []int{0}
	number := func(s int) int { // of what accepts as s does
		if s < 0 || alike[s][nowhere] {
			return -1
		}
		for i, x := range met {
			if alike[x][s] {
				return i
			}
		}
		met = append(met, s)
		return len(met) - 1
	}
	var all api.Dfa // with all classes
	for i := 0; i < len(met); i++ {
		var row []int
		for _, c := range d.Lows {
			row = append(row, number(stepOf(d, met[i], c)))
		}
		all.Rule = append(all.Rule, d.Rule[met[i]])
		all.Next = append(all.Next, row)
	}
	out := api.Dfa{Rule: all.Rule, Next: make([][]int, len(met))}
	for c, low := range d.Lows {
		parts := c == 0
		for _, row := range all.Next {
			parts = parts || row[c] != row[c-1]
		}
		if parts {
			out.Lows = append(out.Lows, low)
			for s, row := range all.Next {
				out.Next[s] = append(out.Next[s], row[c])
			}
		}
	}
	return out
}

// shortest is the first text, the shorter ones first and of these the lesser, that leads a pair of states to one that is looked for.
func shortest(a, b api.Dfa, found func(s, t int) bool) ([]rune, bool) {
	type place struct{ s, t int }
	lows := slices.Concat(a.Lows, b.Lows)
	slices.Sort(lows)
	met := map[place]bool{{0, 0}: true}
	texts := [][]rune{{}}
	for len(texts) > 0 {
		var longer [][]rune
		for _, text := range texts {
			s, u := 0, 0
			for _, c := range text {
				s, u = stepOf(a, s, c), stepOf(b, u, c)
			}
			if found(s, u) {
				return text, true
			}
			for _, c := range lows {
				p := place{stepOf(a, s, c), stepOf(b, u, c)}
				if !met[p] {
					met[p] = true
					longer = append(longer, append(slices.Clone(text), c))
				}
			}
		}
		texts = longer
	}
	return nil, false
}

// apartOf is the least of the shortest texts that two do not accept alike.
func apartOf(a, b api.Dfa) ([]rune, bool) {
	return shortest(a, b, func(s, t int) bool { return ruleAt(a, s) != ruleAt(b, t) })
}

// witnessOf is the least of the shortest texts that a rule accepts.
func witnessOf(d api.Dfa, rule int) ([]rune, bool) {
	if rule < 0 {
		return nil, false
	}
	return shortest(d, d, func(s, _ int) bool { return ruleAt(d, s) == rule })
}

// setsIn are all sets in an expression.
func setsIn(r api.Regex) [][]api.Range {
	var l [][]api.Range
	if r.Kind == api.ReSet {
		l = append(l, r.Set)
	}
	for _, k := range r.Kids {
		l = append(l, setsIn(k)...)
	}
	return l
}

// metBy goes through what is met: the automaton of all rows, with the classes of the first one.
func metBy(l []api.Regex) (api.Dfa, api.Errno) {
	var d api.Dfa
	rows := [][]api.Regex{l}
	known := map[string]int{}
	key := func(row []api.Regex) string {
		var b strings.Builder
		for _, r := range row {
			s, _ := regex.Text(r)
			b.WriteString(s + ";")
		}
		return b.String()
	}
	known[key(l)] = 0
	for i := 0; i < len(rows); i++ {
		var sets [][]api.Range
		for _, r := range rows[i] {
			sets = append(sets, setsIn(r)...)
		}
		cuts, e := runes.Cuts(sets...)
		if e != api.OK {
			return api.Dfa{}, e
		}
		if i == 0 {
			d.Lows = cuts
		}
		leads := map[rune]int{}
		for _, c := range cuts {
			var next []api.Regex
			for _, r := range rows[i] {
				x, e := regex.Derive(r, c)
				if e != api.OK {
					return api.Dfa{}, e
				}
				next = append(next, x)
			}
			if _, again := known[key(next)]; !again {
				if len(rows) == 4096 {
					return api.Dfa{}, api.ErrStates
				}
				known[key(next)] = len(rows)
				rows = append(rows, next)
			}
			leads[c] = known[key(next)]
		}
		var row []int
		for _, low := range d.Lows {
			to, own := leads[low]
			if !own { // no cut of this row
				to = row[len(row)-1]
			}
			row = append(row, to)
		}
		d.Next = append(d.Next, row)
		d.Rule = append(d.Rule, slices.IndexFunc(rows[i], regex.Nullable))
	}
	return d, api.OK
}

// buildOf is the automaton of a row.
func buildOf(l []api.Regex) (api.Dfa, api.Errno) {
	for _, r := range l {
		if !regex.Right(r) {
			return api.Dfa{}, api.ErrArg
		}
	}
	if len(l) == 0 {
		return api.Dfa{}, api.ErrArg
	}
	d, e := metBy(l)
	if e != api.OK {
		return api.Dfa{}, e
	}
	return leastOf(d), api.OK
}

// someRunes are runes at which classes may begin.
func someRunes() []rune {
	return []rune{0, 1, 'a', 'b', 'c', 'd', 0xD7FF, 0xD800, 0xDFFF, 0xE000, 0x10FFFE, 0x10FFFF}
}

// someAuto is an automaton of some states and classes; the more dead, the more of its steps lead nowhere.
func someAuto(chance *rand.Rand) api.Dfa {
	states, dead, rules := 1+chance.Intn(7), chance.Intn(6), 1+chance.Intn(3)
	d := api.Dfa{Lows: []rune{0}}
	for _, c := range someRunes()[1:] {
		if chance.Intn(3) == 0 {
			d.Lows = append(d.Lows, c)
		}
	}
	for range states {
		var row []int
		for range d.Lows {
			to := chance.Intn(states)
			if chance.Intn(8) < dead {
				to = -1
			}
			row = append(row, to)
		}
		rule := -1
		if chance.Intn(3) == 0 {
			rule = chance.Intn(rules)
		}
		d.Next = append(d.Next, row)
		d.Rule = append(d.Rule, rule)
	}
	return d
}

// someRegex is an expression of some parts.
func someRegex(chance *rand.Rand, size int) api.Regex {
	kid := func() api.Regex { return someRegex(chance, size/2) }
	var r api.Regex
	switch pick := chance.Intn(12); {
	case size < 1 || pick == 0:
		l := someRunes()
		lo := chance.Intn(len(l))
		hi := min(lo+chance.Intn(4), len(l)-1)
		r, _ = regex.Set([]api.Range{{Lo: l[lo], Hi: l[hi]}})
	case pick == 1:
		r, _ = regex.Word([]rune("abcab")[chance.Intn(3):][:chance.Intn(3)]...)
	case pick < 5:
		r, _ = regex.Cat(kid(), kid())
	case pick < 7:
		r, _ = regex.Alt(kid(), kid(), kid())
	case pick == 7:
		r, _ = regex.And(kid(), kid())
	case pick == 8:
		r, _ = regex.Not(kid())
	case pick == 9:
		r, _ = regex.Repeat(kid(), chance.Intn(2), chance.Intn(3)+1)
	default:
		r, _ = regex.Star(kid())
	}
	return r
}
