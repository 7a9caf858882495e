package solve_test

import (
	"fmt"
	"slices"
	"strconv"
	"strings"
	"testing"

	"quoin/api"
	"quoin/items"
	"quoin/solve"
)

// The chapter's words by the letter: of each state and kind all productions are gone through one by one, and their whole items are looked for from end to end.

// read is the grammar of a text: productions, names, and levels of kinds, with `;` between. Words that begin with a capital letter are rules, in the order in which they come; the others are kinds, by the alphabet, behind `end` and `error`. The start is the first rule. `left a b`, `right a` and `none a` are levels, from 1 on, in the order in which they come; a production has the level of its last kind that has one.
func read(text string) api.Plain {
	pieces, levels := cut(text)
	g := api.Plain{Kinds: []string{"end", "error"}}
	words := strings.Fields(strings.ReplaceAll(strings.Join(pieces, " "), "=", " "))
	for _, w := range words {
		if isCapital(w) && !slices.Contains(g.Rules, w) {
			g.Rules = append(g.Rules, w)
		}
	}
	slices.Sort(words)
	for _, w := range words {
		if !isCapital(w) && !slices.Contains(g.Kinds, w) {
			g.Kinds = append(g.Kinds, w)
		}
	}
	g.Precs = make([]api.Prec, len(g.Kinds))
	for n, l := range levels {
		for _, kind := range symbols(g, strings.Join(l[1:], " ")) {
			g.Precs[kind] = api.Prec{Level: n + 1, Assoc: assocs()[l[0]]}
		}
	}
	for _, piece := range pieces {
		left, right, is := strings.Cut(piece, "=")
		if is {
			p := api.Prod{Left: slices.Index(g.Rules, strings.TrimSpace(left)), Right: symbols(g, right)}
			p.Level = levelOf(g, p.Right)
			g.Prods = append(g.Prods, p)
		}
	}
	return g
}

func assocs() map[string]int {
	return map[string]int{"left": api.AssocLeft, "right": api.AssocRight, "none": api.AssocNot}
}

// cut are the pieces of a grammar's text, and its levels' words.
func cut(text string) (pieces []string, levels [][]string) {
	for _, piece := range strings.Split(text, ";") {
		if l := strings.Fields(piece); len(l) > 0 && assocs()[l[0]] > 0 {
			levels = append(levels, l)
		} else {
			pieces = append(pieces, piece)
		}
	}
	return pieces, levels
}

func isCapital(word string) bool { return 'A' <= word[0] && word[0] <= 'Z' }

// levelOf is the level of the last kind of a row that has one.
func levelOf(g api.Plain, row []int) int {
	level := 0
	for _, x := range row {
		if x < len(g.Kinds) && g.Precs[x].Level > 0 {
			level = g.Precs[x].Level
		}
	}
	return level
}

// symbols are the numbers of names.
func symbols(g api.Plain, names string) []int {
	var l []int
	for _, w := range strings.Fields(names) {
		l = append(l, slices.Index(slices.Concat(g.Kinds, g.Rules), w))
	}
	return l
}

// text is a grammar's productions, by names, with the levels.
func text(g api.Plain) string {
	var l []string
	for _, p := range g.Prods {
		w := g.Rules[p.Left] + " ="
		for _, x := range p.Right {
			w += " " + slices.Concat(g.Kinds, g.Rules)[x]
		}
		l = append(l, w+" %"+strconv.Itoa(p.Level))
	}
	return strings.Join(l, "; ") + " (" + g.Rules[g.Start] + ") " + told(g.Precs)
}

// told is a value as text; an empty list is told as none is.
func told(x any) string { return fmt.Sprintf("%+v", x) }

// state are items, by their numbers.
func state(l ...[3]int) []api.Item {
	var made []api.Item
	for _, i := range l {
		made = append(made, api.Item{Prod: i[0], Dot: i[1], Look: i[2]})
	}
	return made
}

func startItem(g api.Plain) api.Item { return api.Item{Prod: len(g.Prods), Look: api.KindEnd} }

func size(g api.Plain) int { return len(g.Kinds) + len(g.Rules) }

// wordRight is a production's right side, the start's too.
func wordRight(g api.Plain, prod int) []int {
	if prod == len(g.Prods) {
		return []int{len(g.Kinds) + g.Start}
	}
	return g.Prods[prod].Right
}

// wordProds are the productions by which can be reduced in a state at a kind; by the start's is accepted.
func wordProds(g api.Plain, state []api.Item, kind int) []int {
	var l []int
	for prod := range len(g.Prods) + 1 {
		whole := api.Item{Prod: prod, Dot: len(wordRight(g, prod)), Look: kind}
		if slices.Contains(state, whole) && (prod < len(g.Prods) || kind == api.KindEnd) {
			l = append(l, prod)
		}
	}
	return l
}

func wordBy(g api.Plain, prod int) api.Move {
	if prod == len(g.Prods) {
		return api.Move{Do: api.MoveAccept}
	}
	return api.Move{Do: api.MoveReduce, N: prod}
}

func wordMoves(g api.Plain, a api.Auto, s, kind int) []api.Move {
	var l []api.Move
	if to := a.Next[s][kind]; to != -1 {
		l = append(l, api.Move{Do: api.MoveShift, N: to})
	}
	for _, prod := range wordProds(g, a.States[s], kind) {
		l = append(l, wordBy(g, prod))
	}
	return l
}

// wordClash is what stands in a state at a kind, with all else that a clash has; false, if it is none.
func wordClash(g api.Plain, a api.Auto, s, kind int) (api.Clash, bool) {
	c := api.Clash{State: s, Kind: kind, Shift: a.Next[s][kind], Prods: wordProds(g, a.States[s], kind)}
	switch all := wordMoves(g, a, s, kind); {
	case len(all) == 0:
		return c, false
	case len(all) == 1:
		c.Won = all[0]
		return c, false
	case c.Shift == -1:
		c.Won = wordBy(g, c.Prods[0])
		return c, true
	}
	least, level, p := c.Prods[0], 0, g.Precs[kind]
	if least < len(g.Prods) {
		level = g.Prods[least].Level
	}
	isLeft := level > p.Level || level == p.Level && p.Assoc == api.AssocLeft
	isRight := p.Level > level || level == p.Level && p.Assoc == api.AssocRight
	haveBoth := level > 0 && p.Level > 0
	c.Settled = haveBoth && len(c.Prods) == 1
	if haveBoth && isLeft {
		c.Won = wordBy(g, least)
	} else if !haveBoth || isRight {
		c.Won = api.Move{Do: api.MoveShift, N: c.Shift}
	}
	return c, true
}

// wordSolve is L1.
func wordSolve(g api.Plain, a api.Auto) (api.Table, []api.Clash) {
	var t api.Table
	var l []api.Clash
	for s := range a.States {
		var row []api.Move
		for kind := range g.Kinds {
			c, is := wordClash(g, a, s, kind)
			if is {
				l = append(l, c)
			}
			row = append(row, c.Won)
		}
		var to []int
		for rule := range g.Rules {
			to = append(to, a.Next[s][len(g.Kinds)+rule])
		}
		t.Moves, t.Goto = append(t.Moves, row), append(t.Goto, to)
	}
	return t, l
}

// wordLine is a clash's line.
func wordLine(g api.Plain, c api.Clash) string {
	w := fmt.Sprintf("state %d, %s: ", c.State, g.Kinds[c.Kind])
	between := ""
	if c.Shift >= 0 {
		w += fmt.Sprintf("shift %d", c.Shift)
		between = ", "
	}
	for _, prod := range c.Prods {
		if prod == len(g.Prods) {
			w += between + "accept"
		} else {
			w += between + fmt.Sprintf("reduce %d", prod)
		}
		between = ", "
	}
	w += ": " + map[int]string{api.MoveShift: fmt.Sprintf("shift %d", c.Won.N), api.MoveReduce: fmt.Sprintf("reduce %d", c.Won.N), api.MoveAccept: "accept", api.MoveError: "error"}[c.Won.Do]
	if c.Settled {
		w += " (settled)"
	}
	return w
}

// likeSolve holds Solve against the words, and what is told of the clashes.
func likeSolve(t *testing.T, g api.Plain, a api.Auto) (api.Table, []api.Clash) {
	t.Helper()
	want, wantClashes := wordSolve(g, a)
	x, l, e := solve.Solve(g, a)
	if e != api.OK || told(x) != told(want) || told(l) != told(wantClashes) {
		t.Fatalf("%s: %+v:\n%+v, %+v, %v, not\n%+v, %+v", text(g), a, x, l, e, want, wantClashes)
	}
	likeTold(t, g, l)
	return x, l
}

// likeWords holds Moves against the words, too.
func likeWords(t *testing.T, g api.Plain, a api.Auto) (api.Table, []api.Clash) {
	t.Helper()
	for s := range a.States {
		for kind := range g.Kinds {
			if l, e := solve.Moves(g, a, s, kind); e != api.OK || !slices.Equal(l, wordMoves(g, a, s, kind)) {
				t.Fatalf("%s: %+v: %d, %d: %+v, %v", text(g), a, s, kind, l, e)
			}
		}
	}
	return likeSolve(t, g, a)
}

// likeTold holds Free, Settled and Lines of clashes against the words.
func likeTold(t *testing.T, g api.Plain, l []api.Clash) {
	t.Helper()
	isSettled := !slices.ContainsFunc(l, func(c api.Clash) bool { return !c.Settled })
	if solve.Free(l...) != (len(l) == 0) || solve.Settled(l...) != isSettled {
		t.Fatal(text(g), l, solve.Free(l...), solve.Settled(l...))
	}
	var want []string
	for _, c := range l {
		want = append(want, wordLine(g, c))
	}
	if lines, e := solve.Lines(g, l...); e != api.OK || !slices.Equal(lines, want) {
		t.Fatalf("%s: %+v: %q, %v", text(g), l, lines, e)
	}
}

// built is a grammar's canonical automaton.
func built(t *testing.T, g api.Plain) api.Auto {
	t.Helper()
	a, e := items.Build(g)
	if e != api.OK {
		t.Fatal(text(g), e)
	}
	return a
}

// solved is the table of a grammar's canonical automaton, with its clashes; it is held against the words.
func solved(t *testing.T, g api.Plain) (api.Table, []api.Clash) {
	t.Helper()
	return likeWords(t, g, built(t, g))
}

// wayTo is a state of an automaton, by the names of symbols.
func wayTo(g api.Plain, a api.Auto, row string) int {
	at := 0
	for _, x := range symbols(g, row) {
		at = a.Next[at][x]
	}
	return at
}
