package regex

import (
	"cmp"
	"slices"

	"quoin/api"
	"quoin/runes"
)

// compare is the order of two that stand in the pool. Like ones have one number, so of their kids no more than one pair is gone into.
func (p *pool) compare(a, b int) int {
	if a == b {
		return 0
	}
	x, y := &p.nodes[a], &p.nodes[b]
	if d := cmp.Compare(x.kind, y.kind); d != 0 {
		return d
	}
	switch x.kind {
	case api.ReSet:
		d, _ := runes.Compare(x.set, y.set)
		return d
	case api.ReCat:
		return p.compareRows(a, b)
	}
	return slices.CompareFunc(x.kids, y.kids, p.compare)
}

// compareRows is the order of two rows that are not the same, kid by kid.
func (p *pool) compareRows(a, b int) int {
	for {
		switch empty {
		case a:
			return -1
		case b:
			return 1
		}
		kidA, restA := p.first(a)
		kidB, restB := p.first(b)
		if kidA != kidB {
			return p.compare(kidA, kidB)
		}
		a, b = restA, restB
	}
}
