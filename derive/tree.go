package derive

import (
	"quoin/api"
)

// forest is a chart in which derivations are looked for.
type forest struct {
	*chart
	froms map[finish]set // from where each rule derives the pieces that end at a place
}

// finish is a rule and the place at which its pieces end.
type finish struct{ rule, to int }

func newForest(c *chart) *forest {
	f := &forest{chart: c, froms: map[finish]set{}}
	for _, l := range c.byPlace() {
		for _, of := range l {
			if c.isRule(of.head) {
				f.turn(of)
			}
		}
	}
	return f
}

// turn enters a rule's pieces by their ends.
func (f *forest) turn(of *cell) {
	for to := range of.ends.all() {
		at := finish{of.head, to}
		l := f.froms[at]
		l.add(of.from)
		f.froms[at] = l
	}
}

// kids are the parts of a part's production, of kinds too: with lesser heights than the part has, and of these ways the one with the shortest pieces, the first ones first.
func (f *forest) kids(p part) []part {
	of := f.parts[p]
	right := f.Prods[of.prod].Right
	l := make([]part, len(right))
	ends := f.goodEnds(p, of)
	at := p.from
	for i, symbol := range right {
		l[i] = part{f.ruleOrNone(symbol), at, at}
		for to := range ends[i].all() {
			if f.derives(symbol, at, to, of.height) {
				l[i].to, at = to, to
				break
			}
		}
	}
	return l
}

// goodEnds are the places at which each symbol of a part's production may end, if those behind it shall derive what is left with lesser heights than the part's.
func (f *forest) goodEnds(p part, of found) []set {
	right := f.Prods[of.prod].Right
	good := make([]set, len(right))
	if p.from == p.to { // all pieces are empty
		return good
	}
	good[len(right)-1].add(p.to)
	for i := len(right) - 2; i >= 0; i-- {
		ahead := f.cells[start{f.headAt(of.prod, i+1), p.from}].ends
		for to := range good[i+1].all() {
			for from := range f.fromsOf(right[i+1], to).meet(ahead).all() {
				if f.derives(right[i+1], from, to, of.height) {
					good[i].add(from)
				}
			}
		}
	}
	return good
}

// fromsOf are the places from which a symbol may derive a piece that ends at a place.
func (f *forest) fromsOf(symbol, to int) set {
	if rule, is := f.rule(symbol); is {
		return f.froms[finish{rule, to}]
	}
	if to == 0 {
		return nil
	}
	return set{blockOf(to - 1)}
}

// derives tells whether a symbol derives a piece, with a lesser height.
func (f *forest) derives(symbol, from, to, height int) bool {
	rule, is := f.rule(symbol)
	if !is {
		return to == from+1 && f.row[from] == symbol
	}
	of, is := f.parts[part{rule, from, to}]
	return is && of.height < height
}

// tree is the derivation of a part; false, if it has more than so many nodes and leaves.
func (f *forest) tree(root part, most int) (api.Deriv, bool) {
	var grow func(p part) api.Deriv
	grow = func(p part) api.Deriv {
		most--
		if most < 0 {
			return api.Deriv{}
		}
		if p.rule == noRule {
			return api.Deriv{Prod: leaf, Tok: p.from}
		}
		kids := f.kids(p)
		d := newNode(f.parts[p].prod, len(kids))
		for i, k := range kids {
			d.Kids[i] = grow(k)
		}
		return d
	}
	d := grow(root)
	if most < 0 {
		return api.Deriv{}, false
	}
	return d, true
}

// isOnce tells whether a part has one derivation alone: that is so, if no other way leads to anything in its tree.
func (f *forest) isOnce(root part) bool {
	seen := map[part]struct{}{} // what derives nothing may stand in it more often than could be gone through
	var isOnly func(p part) bool
	isOnly = func(p part) bool {
		if _, is := seen[p]; is || p.rule == noRule {
			return true
		}
		seen[p] = struct{}{}
		if f.cells[start{p.rule, p.from}].again.has(p.to) {
			return false
		}
		prod := f.parts[p].prod
		for i, k := range f.kids(p) {
			if i > 0 && f.cells[start{f.headAt(prod, i), p.from}].again.has(k.from) || !isOnly(k) {
				return false
			}
		}
		return true
	}
	return isOnly(root)
}
