package items

import (
	"slices"

	"quoin/api"
	"quoin/gram"
	"quoin/work"
)

// closer is a grammar of which is known what closures need.
type closer struct {
	*grammar
	nullable []bool
	first    []*work.Set
	own      [][]int  // of each rule its productions, in order
	rests    [][]rest // of each production, the start's too, what stands behind each of its symbols; nil, if it was not asked for yet
}

// rest is a row of symbols: the kinds with which it begins, and whether it makes the empty row.
type rest struct {
	first   *work.Set
	isEmpty bool
}

func newCloser(g *grammar) *closer {
	report, _ := gram.Look(g.Plain) // a grammar that may be has one
	c := &closer{grammar: g, nullable: report.Nullable, own: make([][]int, len(g.Rules)), rests: make([][]rest, len(g.Prods)+1)}
	for _, kinds := range report.First {
		c.first = append(c.first, newSet(kinds...))
	}
	for prod, p := range g.Prods {
		c.own[p.Left] = append(c.own[p.Left], prod)
	}
	return c
}

// behind is what stands behind a production's symbol of that place.
func (c *closer) behind(prod, place int) rest {
	if c.rests[prod] == nil {
		c.rests[prod] = c.allBehind(c.right(prod))
	}
	return c.rests[prod][place]
}

// allBehind is what stands behind each symbol of a row.
func (c *closer) allBehind(row []int) []rest {
	l := make([]rest, len(row))
	r := rest{newSet(), true}
	for place, symbol := range slices.Backward(row) {
		l[place] = r
		r = c.with(symbol, r)
	}
	return l
}

// with is a rest with a symbol ahead of it.
func (c *closer) with(symbol int, r rest) rest {
	rule, is := c.rule(symbol)
	if !is {
		return rest{newSet(symbol), false}
	}
	if !c.nullable[rule] {
		return rest{c.first[rule], false}
	}
	both := c.first[rule].Copy()
	both.Join(r.first)
	return rest{both, r.isEmpty}
}

func newSet(l ...int) *work.Set {
	s, _ := work.NewSet(l...) // kinds are numbers that may be in a set
	return s
}

// closing is a state that is being made. What it gets besides the items with which it begins are, of a rule ahead of which a point stands, all productions with each of the same Looks: so Looks are kept by rule.
type closing struct {
	*closer
	looks map[int]*work.Set
	grown *work.List // the rules that have got Looks since it was gone on from them
	count int        // how many items the rules have, by their productions and Looks
}

// closure is the least state with items, which are rising; ErrFull.
func (c *closer) closure(l []api.Item) ([]api.Item, api.Errno) {
	s := &closing{closer: c, looks: map[int]*work.Set{}, grown: work.NewList()}
	for _, i := range l {
		s.lay(i.Prod, i.Dot, newSet(i.Look))
	}
	for s.count <= api.MaxItems {
		rule, _, is := s.grown.Pop()
		if !is {
			break
		}
		for _, prod := range s.own[rule] {
			s.lay(prod, 0, s.looks[rule])
		}
	}
	if s.count > api.MaxItems {
		return nil, api.ErrFull
	}
	if l = s.all(l); len(l) > api.MaxItems {
		return nil, api.ErrFull
	}
	return l, api.OK
}

// lay gives the rule ahead of which a point stands, if one is there, its Looks by an item with each of these.
func (s *closing) lay(prod, dot int, looks *work.Set) {
	rule, is := s.ruleAt(prod, dot)
	if !is {
		return
	}
	if s.looks[rule] == nil {
		s.looks[rule] = newSet()
	}
	r := s.behind(prod, dot)
	more := s.looks[rule].Join(r.first)
	if r.isEmpty {
		more += s.looks[rule].Join(looks)
	}
	if more > 0 {
		s.count += more * len(s.own[rule])
		s.grown.Push(rule, 0)
	}
}

// all are the items with which it began, and those of rules.
func (s *closing) all(l []api.Item) []api.Item {
	l = slices.Clone(l)
	for rule, looks := range s.looks { // in any order: they are sorted
		for _, prod := range s.own[rule] {
			for _, look := range looks.All() {
				l = append(l, api.Item{Prod: prod, Look: look})
			}
		}
	}
	return inOrder(l)
}
