package dfa

import (
	"slices"

	"quoin/api"
)

// Least is the least automaton that accepts the same.
func Least(d api.Dfa) (api.Dfa, api.Errno) {
	if e := Check(d); e != api.OK {
		return api.Dfa{}, e
	}
	return machineOf(d).least(), api.OK
}

// machine is an automaton whose classes are of sorts: by those of one sort every state goes to the same one.
type machine struct {
	lows  []rune
	sorts []int   // of the classes
	next  [][]int // where a state goes by a sort
	rule  []int
}

// machineOf is an automaton that may be, in memory of its own.
func machineOf(d api.Dfa) machine {
	m := machine{lows: d.Lows, sorts: sortsOf(d.Next), rule: slices.Clone(d.Rule)}
	classes := firsts(m.sorts)
	for _, row := range d.Next {
		m.next = append(m.next, picked(row, classes))
	}
	return m
}

// sortsOf are the sorts of the places of rows: of one are those at which each row has one number.
func sortsOf(rows [][]int) []int {
	sorts := make([]int, len(rows[0]))
	for _, row := range rows {
		sorts = refined(sorts, row)
	}
	return sorts
}

// picked is what stands in a row at some places.
func picked[T any](row []T, places []int) []T {
	l := make([]T, len(places))
	for i, at := range places {
		l[i] = row[at]
	}
	return l
}

// samples are runes, one of each sort.
func (m machine) samples() []rune {
	return picked(m.lows, firsts(m.sorts))
}

// whole is the machine with nowhere as its last state: it accepts nothing, and all that leads to it is nowhere. The rows are turned where they stand.
func (m machine) whole() machine {
	nowhere := len(m.rule)
	m.next = append(m.next, slices.Repeat([]int{nowhere}, len(m.next[0])))
	m.rule = append(m.rule, -1)
	for _, row := range m.next {
		for sort, s := range row {
			if s < 0 {
				row[sort] = nowhere
			}
		}
	}
	return m
}

// least is the least automaton that accepts the same. Its states are the blocks of states that accept alike, but the one of nowhere.
func (m machine) least() api.Dfa {
	m = m.whole()
	b := m.blocks()
	nowhere := b.of[len(m.rule)-1]
	step := func(x, sort int) int {
		if y := b.of[m.next[b.member(x)][sort]]; y != nowhere {
			return y
		}
		return -1
	}
	many := len(m.next[0])
	order := reach(b.of[0], many, step)
	number := map[int]int{-1: -1}
	for i, r := range order {
		number[r.state] = i
	}
	small := machine{lows: m.lows, sorts: m.sorts}
	for _, r := range order {
		row := make([]int, many)
		for sort := range row {
			row[sort] = number[step(r.state, sort)]
		}
		small.next = append(small.next, row)
		small.rule = append(small.rule, m.rule[b.member(r.state)])
	}
	return small.plain()
}

// plain is the machine as an automaton with the fewest classes.
func (m machine) plain() api.Dfa {
	alike := sortsOf(m.next)
	var classes []int
	for c, sort := range m.sorts {
		if c == 0 || alike[sort] != alike[m.sorts[c-1]] {
			classes = append(classes, c)
		}
	}
	d := api.Dfa{Lows: picked(m.lows, classes), Rule: m.rule}
	sorts := picked(m.sorts, classes)
	for _, row := range m.next {
		d.Next = append(d.Next, picked(row, sorts))
	}
	return d
}
