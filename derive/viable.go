package derive

import (
	"quoin/api"
)

// outlook is which rules may begin where, in a row that can be gone on to one that is derived.
type outlook struct {
	*chart
	isUseful []bool // of each production whether it derives something
	leads    []set  // of each rule those that may begin where it does, by one useful production
	known    []set  // of each rule those that may, by any; empty: not asked for yet
	mayBegin []set  // of each place the rules that may begin there
}

func newOutlook(c *chart, r api.Report) *outlook {
	o := &outlook{
		chart:    c,
		isUseful: make([]bool, len(c.Prods)),
		leads:    make([]set, len(c.Rules)),
		known:    make([]set, len(c.Rules)),
		mayBegin: make([]set, len(c.row)+1),
	}
	for prod, p := range c.Prods {
		o.isUseful[prod] = c.allAre(p.Right, r.Productive)
		if o.isUseful[prod] {
			o.leadBy(p, r.Nullable)
		}
	}
	return o
}

// leadBy tells of a production's rule which ones may begin where it does: those ahead of which all makes the empty row.
func (o *outlook) leadBy(p api.Prod, nullable []bool) {
	for _, symbol := range p.Right {
		rule, is := o.rule(symbol)
		if !is {
			return
		}
		o.leads[p.Left].add(rule)
		if !nullable[rule] {
			return
		}
	}
}

// with are the rules that may begin where a rule does, itself too.
func (o *outlook) with(rule int) set {
	if len(o.known[rule]) > 0 {
		return o.known[rule]
	}
	all := set{blockOf(rule)}
	todo := []int{rule}
	for at := 0; at < len(todo); at++ { // there come more and more of them
		isNew := o.leads[todo[at]].without(all)
		all.join(isNew)
		for next := range isNew.all() {
			todo = append(todo, next)
		}
	}
	o.known[rule] = all
	return all
}

// longest is how far the row can be gone on from: rules begin where they may, and all that they derive from there on may stand.
func (o *outlook) longest() int {
	longest := 0
	o.mayBegin[0].join(o.with(o.Start))
	for at, l := range o.byPlace() {
		for _, of := range l {
			if len(of.ends) > 0 && o.mayStand(of, at) {
				longest = max(longest, of.ends.last())
				o.letBegin(of)
			}
		}
	}
	return longest
}

// mayStand tells whether what a cell derives may stand at its place.
func (o *outlook) mayStand(of *cell, at int) bool {
	if o.isRule(of.head) {
		return o.mayBegin[at].has(of.head)
	}
	prod := o.heads[of.head].prod
	return o.isUseful[prod] && o.mayBegin[at].has(o.Prods[prod].Left)
}

// letBegin lets the rule behind a dot begin where what is ahead of the dot ends.
func (o *outlook) letBegin(of *cell) {
	if o.isRule(of.head) {
		return
	}
	rule, is := o.rule(o.heads[of.head].symbol)
	if !is {
		return
	}
	for to := range of.ends.all() {
		o.mayBegin[to].join(o.with(rule))
	}
}
