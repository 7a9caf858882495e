package regex

import (
	"slices"

	"quoin/api"
)

// The numbers that three expressions have in every pool.
const (
	none       = iota // ReNone
	empty             // ReEmpty
	everything        // ReNot of ReNone
)

// node is an expression in a pool.
type node struct {
	kind     int
	set      []api.Range
	kids     []int // numbers in the pool; of a ReCat two: its first kid, and what follows it (a ReCat, or the last kid)
	parts    int   // not counted beyond the first too many
	levels   int   // not counted beyond the first too many
	nullable bool
}

// pool is where expressions are made: each one stands in it once, so that like ones have one number, and what many share is looked at once, however large they are if they are written out.
type pool struct {
	nodes   []node
	numbers map[string]int     // by key
	key     []byte             // the last key that was asked for; its room is used again
	steps   map[step]int       // derivatives that were asked for
	order   func(a, b int) int // in which the kids of a ReAlt and a ReAnd stand
	e       api.Errno          // what was wrong first with what was made
}

// newPool is a pool with nothing but the three.
func newPool() *pool {
	p := &pool{nodes: make([]node, 0, 16), numbers: map[string]int{}, steps: map[step]int{}}
	p.order = p.compare
	p.put(node{kind: api.ReNone})
	p.put(node{kind: api.ReEmpty})
	p.put(node{kind: api.ReNot, kids: []int{none}})
	return p
}

// fail keeps an error, if it is the first one; in the place of what can't be made stands none, of which nothing large comes any more.
func (p *pool) fail(e api.Errno) int {
	if p.e == api.OK {
		p.e = e
	}
	return none
}

// put is the number of a node.
func (p *pool) put(n node) int {
	p.key = n.appendKey(p.key[:0])
	if x, there := p.numbers[string(p.key)]; there {
		return x
	}
	p.measure(&n)
	n.nullable = p.takesEmpty(&n)
	p.nodes = append(p.nodes, n)
	x := len(p.nodes) - 1
	p.numbers[string(p.key)] = x
	return x
}

// appendKey writes behind b what no other node has.
func (n *node) appendKey(b []byte) []byte {
	b = append(b, byte(n.kind))
	for _, x := range n.set {
		b = appendNumber(appendNumber(b, uint32(x.Lo)), uint32(x.Hi))
	}
	for _, k := range n.kids {
		b = appendNumber(b, uint32(k))
	}
	return b
}

// appendNumber writes a number behind b.
func appendNumber(b []byte, n uint32) []byte {
	return append(b, byte(n), byte(n>>8), byte(n>>16), byte(n>>24))
}

// measure counts a node's parts and levels.
func (p *pool) measure(n *node) {
	n.parts, n.levels = 1+len(n.set), 1
	for i, k := range n.kids {
		kid := &p.nodes[k]
		own := 1
		if i == 1 && n.kind == api.ReCat && kid.kind == api.ReCat {
			own = 0 // what follows is no kid, but the same row
		}
		n.parts += kid.parts - 1 + own
		n.levels = max(n.levels, kid.levels+own)
	}
	n.parts = min(n.parts, api.MaxRegex+1)
	n.levels = min(n.levels, api.MaxNest+1)
}

// takesEmpty tells whether a node takes the empty row.
func (p *pool) takesEmpty(n *node) bool {
	takes := func(k int) bool { return p.nodes[k].nullable }
	takesNot := func(k int) bool { return !p.nodes[k].nullable }
	switch n.kind {
	case api.ReEmpty, api.ReStar:
		return true
	case api.ReCat, api.ReAnd:
		return !slices.ContainsFunc(n.kids, takesNot)
	case api.ReAlt:
		return slices.ContainsFunc(n.kids, takes)
	case api.ReNot:
		return takesNot(n.kids[0])
	}
	return false
}

// first is the first kid of a row, and what follows it; a row of one is that one itself, one of none is empty.
func (p *pool) first(x int) (kid, rest int) {
	if n := &p.nodes[x]; n.kind == api.ReCat {
		return n.kids[0], n.kids[1]
	}
	return x, empty
}

// row is the kids of a row, one behind the other.
func (p *pool) row(x int) []int {
	var l []int
	for x != empty {
		var kid int
		kid, x = p.first(x)
		l = append(l, kid)
	}
	return l
}

// kids are an expression's kids.
func (p *pool) kids(x int) []int {
	if p.nodes[x].kind == api.ReCat {
		return p.row(x)
	}
	return p.nodes[x].kids
}

// held is what has a number again, or none, if it is too much.
func (p *pool) held(x int) int {
	switch n := &p.nodes[x]; {
	case n.parts > api.MaxRegex:
		return p.fail(api.ErrSize)
	case n.levels > api.MaxNest:
		return p.fail(api.ErrNest)
	}
	return x
}

// answer is what has a number, in memory of its own; or what was wrong first.
func (p *pool) answer(x int) (api.Regex, api.Errno) {
	x = p.held(x)
	if p.e != api.OK {
		return api.Regex{}, p.e
	}
	return p.tree(x), api.OK
}

// tree is what has a number, written out.
func (p *pool) tree(x int) api.Regex {
	n := p.nodes[x]
	r := api.Regex{Kind: n.kind, Set: slices.Clone(n.set)}
	for _, k := range p.kids(x) {
		r.Kids = append(r.Kids, p.tree(k))
	}
	return r
}
