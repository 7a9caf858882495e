package dfa

import (
	"slices"

	"quoin/api"
	"quoin/regex"
	"quoin/runes"
)

// Build is the least automaton of expressions.
func Build(l ...api.Regex) (api.Dfa, api.Errno) {
	wrong := func(r api.Regex) bool { return !regex.Right(r) }
	if len(l) == 0 || slices.ContainsFunc(l, wrong) {
		return api.Dfa{}, api.ErrArg
	}
	lows, e := cutsOf(l)
	if e != api.OK {
		return api.Dfa{}, e
	}
	b := newBuilder()
	m := machine{lows: lows, sorts: b.sorts(lows, l)}
	if m.next, m.rule, e = b.meet(m.samples(), l); e != api.OK {
		return api.Dfa{}, e
	}
	d := m.least()
	if len(d.Lows) > api.MaxStates {
		return api.Dfa{}, api.ErrStates
	}
	return d, api.OK
}

// cutsOf are the cuts of expressions together. A derivative's sets are made of those of its expression, so no other cuts are ever met.
func cutsOf(l []api.Regex) ([]rune, api.Errno) {
	var all []rune
	for _, r := range l {
		cuts, e := regex.Cuts(r)
		if e != api.OK {
			return nil, e
		}
		all = append(all, cuts...)
	}
	slices.Sort(all)
	all = slices.Compact(all)
	if len(all) > api.MaxRanges {
		return nil, api.ErrRanges
	}
	return all, api.OK
}

// builder meets rows of expressions. Of a row it keeps those that are not ReNone: of ReNone nothing else comes.
type builder struct {
	parts numbers        // of expressions, and of all in them
	exprs map[int]expr   // by number
	steps map[[2]int]int // from an expression, by a class of its own cuts, to its derivative
	rows  numbers        // of rows
	order map[int]int    // in which rows were met, by number
	met   [][]live       // the rows, in that order
}

// newBuilder is one that has met nothing.
func newBuilder() *builder {
	return &builder{parts: numbers{}, exprs: map[int]expr{}, steps: map[[2]int]int{}, rows: numbers{}, order: map[int]int{}}
}

// expr is an expression that stands in a row.
type expr struct {
	re         api.Regex
	cuts       []rune
	takesEmpty bool
}

// live is an expression of a row: its rule and its number.
type live struct{ rule, expr int }

// sorts are the classes' sorts: of one are those that no set of the expressions tells apart, so that all derivatives by them are one.
func (b *builder) sorts(lows []rune, l []api.Regex) []int {
	sorts := make([]int, len(lows))
	met := map[int]struct{}{}
	split := func(s api.Regex) {
		n := b.parts.expression(s)
		if _, again := met[n]; !again {
			met[n] = struct{}{}
			sorts = refined(sorts, having(s.Set, lows))
		}
	}
	for _, r := range l {
		eachSet(r, split)
	}
	return sorts
}

// eachSet hands over all ReSets in an expression.
func eachSet(r api.Regex, take func(s api.Regex)) {
	if r.Kind == api.ReSet {
		take(r)
	}
	for _, kid := range r.Kids {
		eachSet(kid, take)
	}
}

// having tells by 1 and 0 which classes a set has, whose cuts are among theirs.
func having(s []api.Range, lows []rune) []int {
	l := make([]int, len(lows))
	for _, x := range s {
		for i := runes.Class(lows, x.Lo); i < len(lows) && lows[i] <= x.Hi; i++ {
			l[i] = 1
		}
	}
	return l
}

// meet goes through what is met, by one rune of each sort: where each row leads, and its rule.
func (b *builder) meet(samples []rune, l []api.Regex) (next [][]int, rule []int, e api.Errno) {
	var first []live
	for i, r := range l {
		first = b.join(first, i, b.number(r))
	}
	b.enter(first)
	for s := 0; s < len(b.met); s++ {
		row := make([]int, len(samples))
		for i, c := range samples {
			if row[i], e = b.step(s, c); e != api.OK {
				return nil, nil, e
			}
		}
		next = append(next, row)
		rule = append(rule, b.ruleOf(s))
	}
	return next, rule, api.OK
}

// number is an expression's; 0, which no other one has, of ReNone.
func (b *builder) number(r api.Regex) int {
	if r.Kind == api.ReNone {
		return 0
	}
	n := b.parts.expression(r)
	if _, there := b.exprs[n]; !there {
		cuts, _ := regex.Cuts(r) // they are among those of all expressions together, which were not too many
		b.exprs[n] = expr{r, cuts, regex.Nullable(r)}
	}
	return n
}

// join puts an expression behind a row.
func (b *builder) join(row []live, rule, expr int) []live {
	if expr == 0 {
		return row
	}
	return append(row, live{rule, expr})
}

// enter is which of the rows that were met it is; the next one, if it was not.
func (b *builder) enter(row []live) (int, api.Errno) {
	l := make([]int, 0, 2*len(row))
	for _, x := range row {
		l = append(l, x.rule, x.expr)
	}
	n := b.rows.of(l...)
	if s, again := b.order[n]; again {
		return s, api.OK
	}
	s := len(b.met)
	if s == api.MaxStates {
		return 0, api.ErrStates
	}
	b.order[n] = s
	b.met = append(b.met, row)
	return s, api.OK
}

// step is where a row leads by a rune.
func (b *builder) step(s int, c rune) (int, api.Errno) {
	var row []live
	for _, x := range b.met[s] {
		y, e := b.derive(x.expr, c)
		if e != api.OK {
			return 0, e
		}
		row = b.join(row, x.rule, y)
	}
	return b.enter(row)
}

// derive is the number of an expression's derivative. By all runes of a class of its own cuts it is one.
func (b *builder) derive(n int, c rune) (int, api.Errno) {
	x := b.exprs[n]
	class := [2]int{n, runes.Class(x.cuts, c)}
	if y, known := b.steps[class]; known {
		return y, api.OK
	}
	r, e := regex.Derive(x.re, c)
	if e != api.OK {
		return 0, e
	}
	b.steps[class] = b.number(r)
	return b.steps[class], api.OK
}

// ruleOf is the first rule of a row whose expression takes the empty row; -1, if none does.
func (b *builder) ruleOf(s int) int {
	for _, x := range b.met[s] {
		if b.exprs[x.expr].takesEmpty {
			return x.rule
		}
	}
	return -1
}
