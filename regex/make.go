package regex

import (
	"slices"

	"quoin/api"
	"quoin/runes"
)

// madeOf is what is made of a kind, a set, and kids that stand in the pool.
func (p *pool) madeOf(kind int, set []api.Range, kids []int) int {
	switch kind {
	case api.ReEmpty:
		return empty
	case api.ReSet:
		return p.set(set)
	case api.ReCat:
		return p.cat(kids...)
	case api.ReAlt:
		return p.alt(kids...)
	case api.ReAnd:
		return p.and(kids...)
	case api.ReNot:
		return p.not(kids[0])
	case api.ReStar:
		return p.star(kids[0])
	}
	return none
}

// set is the ReSet of a set.
func (p *pool) set(s []api.Range) int {
	if len(s) == 0 {
		return none
	}
	return p.put(node{kind: api.ReSet, set: s})
}

// word is the ReCat of a ReSet for each rune.
func (p *pool) word(row ...rune) int {
	l := make([]int, len(row))
	for i, c := range row {
		l[i] = p.set([]api.Range{{Lo: c, Hi: c}})
	}
	return p.cat(l...)
}

// cat is a ReCat.
func (p *pool) cat(l ...int) int {
	if slices.Contains(l, none) {
		return none
	}
	x := empty
	for _, ahead := range slices.Backward(l) {
		if x == empty {
			x = ahead
			continue
		}
		for _, kid := range slices.Backward(p.row(ahead)) {
			x = p.put(node{kind: api.ReCat, kids: []int{kid, x}})
		}
	}
	return x
}

// alt is a ReAlt.
func (p *pool) alt(l ...int) int {
	return p.choice(api.ReAlt, l)
}

// and is a ReAnd.
func (p *pool) and(l ...int) int {
	return p.choice(api.ReAnd, l)
}

// choice is a ReAlt or a ReAnd.
func (p *pool) choice(kind int, l []int) int {
	swallows, idle := everything, none // what takes all others in, and what falls away
	if kind == api.ReAnd {
		swallows, idle = none, everything
	}
	kids := p.spliced(kind, l)
	if slices.Contains(kids, swallows) {
		return swallows
	}
	kids = p.oneSet(kind, kids)
	if slices.Contains(kids, swallows) { // sets that have no rune in common
		return swallows
	}
	kids = slices.DeleteFunc(kids, func(x int) bool { return x == idle })
	switch len(kids) {
	case 0:
		return idle
	case 1:
		return kids[0]
	}
	slices.SortFunc(kids, p.order)
	return p.put(node{kind: kind, kids: kids})
}

// spliced is each of l once, with the kids of those of a kind in their place.
func (p *pool) spliced(kind int, l []int) []int {
	var kids []int
	for _, x := range l {
		if p.nodes[x].kind == kind {
			kids = append(kids, p.nodes[x].kids...)
		} else {
			kids = append(kids, x)
		}
	}
	slices.Sort(kids)
	return slices.Compact(kids)
}

// oneSet is the kids of a ReAlt or a ReAnd with all ReSets as one. If layer 2 has no such set, they stay, so that what is made means what it should.
func (p *pool) oneSet(kind int, kids []int) []int {
	var sets [][]api.Range
	var others []int
	for _, x := range kids {
		if n := &p.nodes[x]; n.kind == api.ReSet {
			sets = append(sets, n.set)
		} else {
			others = append(others, x)
		}
	}
	if len(sets) < 2 {
		return kids
	}
	together := runes.Union
	if kind == api.ReAnd {
		together = runes.Meet
	}
	s, e := together(sets...)
	if e != api.OK {
		p.fail(e)
		return kids
	}
	return append(others, p.set(s))
}

// not is a ReNot.
func (p *pool) not(x int) int {
	if n := &p.nodes[x]; n.kind == api.ReNot {
		return n.kids[0]
	}
	return p.put(node{kind: api.ReNot, kids: []int{x}})
}

// star is a ReStar.
func (p *pool) star(x int) int {
	switch {
	case x == none || x == empty:
		return empty
	case p.nodes[x].kind == api.ReStar:
		return x
	}
	return p.put(node{kind: api.ReStar, kids: []int{x}})
}

// repeat is so many of what has a number; all that is made on the way is held against the limits.
func (p *pool) repeat(x, lo, hi int) int {
	behind := empty
	if hi < 0 {
		behind = p.held(p.star(x))
	} else {
		for range hi - lo {
			behind = p.held(p.alt(empty, p.held(p.cat(x, behind))))
		}
	}
	all := behind
	for range lo {
		all = p.cat(x, all)
		if p.nodes[all].parts > api.MaxRegex { // more would make it no smaller
			break
		}
	}
	return p.held(all)
}
