package gram

import (
	"slices"

	"quoin/work"
)

// ways are the rules to which each rule leads, in one of several senses.
type ways [][]int

// rings are groups of rules: two are in one just if each leads to the other. A ring stands behind those to which it leads.
func (w ways) rings() [][]int {
	v := &visit{ways: w, met: make([]int, len(w)), low: make([]int, len(w)), isOpen: make([]bool, len(w))}
	for rule := range w {
		v.enter(rule)
	}
	return v.made
}

// visit is a search in depth for rings, after Tarjan.
type visit struct {
	ways
	count  int
	met    []int // as which one a rule was met, from 1 on; 0: not yet
	low    []int // the first that was met, of those in its ring that are known
	open   []int // the rules whose rings are not known yet, as they were met
	isOpen []bool
	made   [][]int
}

func (v *visit) enter(rule int) {
	if v.met[rule] > 0 {
		return
	}
	v.count++
	v.met[rule], v.low[rule], v.isOpen[rule] = v.count, v.count, true
	place := len(v.open)
	v.open = append(v.open, rule)
	for _, to := range v.ways[rule] {
		v.enter(to)
		if v.isOpen[to] {
			v.low[rule] = min(v.low[rule], v.low[to])
		}
	}
	if v.low[rule] == v.met[rule] {
		v.close(place)
	}
}

// close makes a ring of the open rules from a place on.
func (v *visit) close(place int) {
	ring := slices.Clone(v.open[place:])
	for _, rule := range ring {
		v.isOpen[rule] = false
	}
	v.open = v.open[:place]
	v.made = append(v.made, ring)
}

// gather lays into each rule's set those of all rules to which it leads. The rules of a ring have one set from then on.
func (w ways) gather(sets []*work.Set) {
	for _, ring := range w.rings() {
		all := sets[ring[0]]
		for _, rule := range ring {
			all.Join(sets[rule])
			for _, to := range w[rule] {
				all.Join(sets[to])
			}
		}
		for _, rule := range ring {
			sets[rule] = all
		}
	}
}

// toThemselves are the rules that lead to themselves.
func (w ways) toThemselves() []bool {
	marked := make([]bool, len(w))
	for _, ring := range w.rings() {
		for _, rule := range ring {
			marked[rule] = len(ring) > 1 || slices.Contains(w[rule], rule)
		}
	}
	return marked
}
