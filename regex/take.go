package regex

import (
	"slices"

	"quoin/api"
	"quoin/runes"
)

// take puts expressions into a pool; it tells whether all of them are right.
func (p *pool) take(l ...api.Regex) (all []int, right bool) {
	for _, r := range l {
		if !mayBe(r) {
			return nil, false
		}
		x, right := p.load(r)
		if !right {
			return nil, false
		}
		all = append(all, x)
	}
	return all, true
}

// load makes an expression that may be; it tells whether that was right: just then making it, the innermost first, leaves it as it is, and nothing goes wrong with it (of sets that layer 2 can't put together, making leaves two).
func (p *pool) load(r api.Regex) (x int, right bool) {
	kids := make([]int, len(r.Kids))
	right = true
	for i, kid := range r.Kids {
		kidRight := false
		kids[i], kidRight = p.load(kid)
		right = right && kidRight
	}
	x = p.madeOf(r.Kind, r.Set, kids)
	return x, right && p.e == api.OK && p.nodes[x].kind == r.Kind && slices.Equal(p.kids(x), kids)
}

// mayBe tells whether something can be made of an expression.
func mayBe(r api.Regex) bool {
	return room(r, api.MaxRegex, api.MaxNest) >= 0 && formed(r)
}

// room is how many parts are left, if of so many r takes its own, within so many levels; below 0: too few. Kids that share memory can be more than one can go through, so nothing is counted beyond the first too many.
func room(r api.Regex, parts, levels int) int {
	parts -= 1 + len(r.Set)
	if levels == 0 {
		return -1
	}
	for _, kid := range r.Kids {
		if parts < 0 {
			break
		}
		parts = room(kid, parts, levels-1)
	}
	return parts
}

// formed tells whether r, and all in it, have the fields that their kinds have.
func formed(r api.Regex) bool {
	kidsFit := false
	switch r.Kind {
	case api.ReSet:
		return len(r.Kids) == 0 && runes.Check(r.Set) == api.OK
	case api.ReNone, api.ReEmpty:
		kidsFit = len(r.Kids) == 0
	case api.ReCat, api.ReAlt, api.ReAnd:
		kidsFit = len(r.Kids) > 0
	case api.ReNot, api.ReStar:
		kidsFit = len(r.Kids) == 1
	}
	if !kidsFit || len(r.Set) > 0 {
		return false
	}
	return !slices.ContainsFunc(r.Kids, func(kid api.Regex) bool { return !formed(kid) })
}
