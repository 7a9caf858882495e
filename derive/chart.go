package derive

import (
	"math/bits"

	"quoin/api"
	"quoin/gram"
)

// chart is all that rules, and productions up to a dot, derive of a row. It is found round by round: in each one what needs rules of the rounds ahead alone, so that the round in which a rule is found over a piece is its height.
type chart struct {
	*grammar
	row   []int
	parts map[part]found  // of rules
	cells map[start]*cell // of rules, and of productions up to a dot
	made  []*cell         // these, as they came
	count int             // how many parts there are, of both
	round int
	fresh []*cell // the rules of which something was found in this round
}

// part is a rule over a piece of the row.
type part struct{ rule, from, to int }

// found is how a rule's part was found first: in which round, and by the least production of that round.
type found struct{ height, prod int }

// start is a head and the place from which it derives pieces.
type start struct{ head, from int }

// cell is what a head derives from a place on.
type cell struct {
	start
	ends  set    // where these pieces end; of a rule those of the rounds ahead
	now   set    // of a rule those of this round
	again set    // the ends to which more than one way leads
	waits []wait // of a rule: what goes on where it ends
	most  int    // of a rule: the greatest production by which something was found in this round
}

// wait is a cell that a production comes to by a rule.
type wait struct {
	to   *cell
	prod int
}

// newChart is the chart of a row.
func newChart(g api.Plain, row []int) (*chart, api.Errno) {
	if e := gram.Check(g); e != api.OK {
		return nil, e
	}
	if !areKinds(g, row) {
		return nil, api.ErrRow
	}
	if len(row) > api.MaxToks {
		return nil, api.ErrChart
	}
	c := &chart{grammar: newGrammar(g), row: row, parts: map[part]found{}, cells: map[start]*cell{}, round: 1}
	for at := 0; at <= len(row) && !c.isFull(); at++ {
		c.begin(at)
	}
	for len(c.fresh) > 0 && !c.isFull() {
		c.nextRound()
	}
	if c.isFull() {
		return nil, api.ErrChart
	}
	return c, api.OK
}

func (c *chart) isFull() bool { return c.count > api.MaxChart }

// cell is the one of a head and a place.
func (c *chart) cell(head, from int) *cell {
	at := start{head, from}
	one := c.cells[at]
	if one == nil {
		one = &cell{start: at}
		c.cells[at] = one
		c.made = append(c.made, one)
	}
	return one
}

// begin lays what needs no rule at a place.
func (c *chart) begin(at int) {
	for _, prod := range c.empty {
		c.lay(c.cell(c.Prods[prod].Left, at), prod, blockOf(at))
	}
	if at < len(c.row) {
		for _, h := range c.firsts[c.row[at]] {
			c.lay(c.cell(h.next, at), h.prod, blockOf(at+1))
		}
	}
}

// release is what was found of a rule from a place on in the last round, and what waited for it then: what comes to wait later finds it there.
type release struct {
	start
	ends  set
	waits []wait
}

// nextRound goes on from what was found in the last one.
func (c *chart) nextRound() {
	l := make([]release, len(c.fresh))
	for i, of := range c.fresh {
		l[i] = release{of.start, of.now, of.waits}
		of.ends.join(of.now)
		of.now = nil
	}
	c.fresh = nil
	c.round++
	for _, r := range l {
		c.goOnBy(r)
	}
}

func (c *chart) goOnBy(r release) {
	for _, w := range r.waits {
		c.layAll(w.to, w.prod, r.ends)
	}
	for _, h := range c.firsts[len(c.Kinds)+r.head] {
		c.layAll(c.cell(h.next, r.from), h.prod, r.ends)
	}
}

func (c *chart) layAll(to *cell, prod int, ends set) {
	for _, b := range ends {
		c.lay(to, prod, b)
	}
}

// lay gives a cell ends to which a production leads. Each way comes once, so an end that comes again has several.
func (c *chart) lay(to *cell, prod int, ends block) {
	if c.isFull() {
		return
	}
	known := to.ends.bitsAt(ends.at) | to.now.bitsAt(ends.at)
	to.again.lay(block{ends.at, ends.bits & known})
	isNew := block{ends.at, ends.bits &^ known}
	c.count += bits.OnesCount64(isNew.bits)
	if c.isRule(to.head) {
		c.lower(to, prod, ends)
		c.find(to, prod, isNew)
		return
	}
	to.ends.lay(isNew)
	for end := range isNew.all() {
		c.goOn(to, end)
	}
}

// find tells of a rule new ends.
func (c *chart) find(of *cell, prod int, isNew block) {
	if isNew.bits == 0 {
		return
	}
	if len(of.now) == 0 {
		c.fresh = append(c.fresh, of)
		of.most = prod
	}
	of.most = max(of.most, prod)
	of.now.lay(isNew)
	for to := range isNew.all() {
		c.parts[part{of.head, of.from, to}] = found{c.round, prod}
	}
}

// lower tells a production of those ends that were found in this round by a greater one.
func (c *chart) lower(of *cell, prod int, ends block) {
	if prod >= of.most {
		return
	}
	same := block{ends.at, ends.bits & of.now.bitsAt(ends.at)}
	for to := range same.all() {
		p := part{of.head, of.from, to}
		c.parts[p] = found{c.round, min(prod, c.parts[p].prod)}
	}
}

// goOn goes on behind a new end of a production up to a dot.
func (c *chart) goOn(from *cell, end int) {
	h := c.heads[from.head]
	rule, is := c.rule(h.symbol)
	if is {
		to, by := c.cell(h.next, from.from), c.cell(rule, end)
		by.waits = append(by.waits, wait{to, h.prod})
		c.layAll(to, h.prod, by.ends)
	} else if end < len(c.row) && c.row[end] == h.symbol {
		c.lay(c.cell(h.next, from.from), h.prod, blockOf(end+1))
	}
}

// root is the start over the whole row; false, if it does not derive it.
func (c *chart) root() (part, bool) {
	p := part{c.Start, 0, len(c.row)}
	_, is := c.parts[p]
	return p, is
}

// byPlace are the cells of each place.
func (c *chart) byPlace() [][]*cell {
	l := make([][]*cell, len(c.row)+1)
	for _, of := range c.made {
		l[of.from] = append(l[of.from], of)
	}
	return l
}
