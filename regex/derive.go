package regex

import (
	"cmp"

	"quoin/api"
	"quoin/runes"
)

// step is an expression in a pool, and a rune by which it is derived.
type step struct {
	x int
	c rune
}

// Derive takes what is left behind a rune.
func Derive(r api.Regex, c rune) (api.Regex, api.Errno) {
	return made(func(p *pool, l ...int) int {
		if !isRune(c) {
			return p.fail(api.ErrArg)
		}
		return p.derive(l[0], c)
	}, r)
}

// Match tells whether it takes a row.
func Match(r api.Regex, row ...rune) bool {
	p := newPool()
	l, right := p.take(r)
	if !right {
		return false
	}
	p.order = cmp.Compare[int] // any order does for what is not answered, and this one is told at once
	x := l[0]
	for _, c := range row {
		if !isRune(c) {
			return false
		}
		x = p.derive(x, c)
	}
	return p.nodes[x].nullable
}

// Cuts are the runes at which its sets part.
func Cuts(r api.Regex) ([]rune, api.Errno) {
	p := newPool()
	if _, right := p.take(r); !right {
		return nil, api.ErrRegex
	}
	var sets [][]api.Range
	for _, n := range p.nodes {
		if n.kind == api.ReSet {
			sets = append(sets, n.set)
		}
	}
	return runes.Cuts(sets...)
}

// derive is the derivative by a rune. Nothing that is made on the way is too much here: it may fall away.
func (p *pool) derive(x int, c rune) int {
	if d, known := p.steps[step{x, c}]; known {
		return d
	}
	d := none
	switch n := p.nodes[x]; n.kind {
	case api.ReSet:
		if runes.Has(n.set, c) {
			d = empty
		}
	case api.ReCat, api.ReAlt:
		d = p.alt(p.terms(x, c)...)
	case api.ReAnd:
		l := make([]int, len(n.kids))
		for i, k := range n.kids {
			l[i] = p.derive(k, c)
		}
		d = p.and(l...)
	case api.ReNot:
		d = p.not(p.derive(n.kids[0], c))
	case api.ReStar:
		d = p.cat(p.derive(n.kids[0], c), x)
	}
	p.steps[step{x, c}] = d
	return d
}

// terms are the derivatives of which the one of a ReCat or a ReAlt is the ReAlt. What several kids end with is gone into once.
func (p *pool) terms(x int, c rune) []int {
	var l []int
	todo := []int{x}
	met := map[int]struct{}{}
	for i := 0; i < len(todo); i++ {
		x := todo[i]
		if _, again := met[x]; again {
			continue
		}
		met[x] = struct{}{}
		switch n := p.nodes[x]; n.kind {
		case api.ReAlt:
			todo = append(todo, n.kids...)
		case api.ReCat:
			l = append(l, p.cat(p.derive(n.kids[0], c), n.kids[1]))
			if p.nodes[n.kids[0]].nullable {
				todo = append(todo, n.kids[1])
			}
		default:
			l = append(l, p.derive(x, c))
		}
	}
	return l
}
