package states

import (
	"slices"

	"quoin/api"
	"quoin/gram"
	"quoin/work"
)

// Closer is a grammar of which is known what closures need.
type Closer struct {
	*Grammar
	nullable []bool
	first    []*work.Set
	own      [][]int  // of each rule its productions, in order
	rests    [][]rest // of each production, the start's too, what stands behind each of its symbols; nil, if it was not asked for yet
}

// rest is a row of symbols: the kinds with which it begins, and whether it makes the empty row.
type rest struct {
	first   *work.Set
	isEmpty bool
}

func NewCloser(g *Grammar) *Closer {
	report, _ := gram.Look(g.Plain) // a grammar that may be has one
	c := &Closer{Grammar: g, nullable: report.Nullable, own: make([][]int, len(g.Rules)), rests: make([][]rest, len(g.Prods)+1)}
	for _, kinds := range report.First {
		c.first = append(c.first, newSet(kinds...))
	}
	for prod, p := range g.Prods {
		c.own[p.Left] = append(c.own[p.Left], prod)
	}
	return c
}

// behind is what stands behind a production's symbol of that place.
func (c *Closer) behind(prod, place int) rest {
	if c.rests[prod] == nil {
		c.rests[prod] = c.allBehind(c.Right(prod))
	}
	return c.rests[prod][place]
}

// allBehind is what stands behind each symbol of a row.
func (c *Closer) allBehind(row []int) []rest {
	l := make([]rest, len(row))
	r := rest{newSet(), true}
	for place, symbol := range slices.Backward(row) {
		l[place] = r
		r = c.with(symbol, r)
	}
	return l
}

// with is a rest with a symbol ahead of it.
func (c *Closer) with(symbol int, r rest) rest {
	rule, is := c.Rule(symbol)
	if !is {
		return rest{newSet(symbol), false}
	}
	if !c.nullable[rule] {
		return rest{c.first[rule], false}
	}
	both := c.first[rule].Copy()
	both.Join(r.first)
	return rest{both, r.isEmpty}
}

func newSet(l ...int) *work.Set {
	s, _ := work.NewSet(l...) // kinds are numbers that may be in a set
	return s
}

// Closure is the least state with items, which are rising; ErrFull.
func (c *Closer) Closure(l []api.Item) ([]api.Item, api.Errno) {
	s := c.Begin()
	for _, i := range l {
		s.Lay(Spot{i.Prod, i.Dot}, newSet(i.Look))
	}
	if !s.Close() {
		return nil, api.ErrFull
	}
	if l = s.With(l); len(l) > api.MaxItems {
		return nil, api.ErrFull
	}
	return l, api.OK
}

// Closing is a state that is being closed. What it gets besides the items with which it begins are, of a rule ahead of which a point stands, all productions with each of the same Looks: so Looks are kept by rule.
type Closing struct {
	*Closer
	looks map[int]*work.Set
	grown *work.List // the rules that have got Looks since it was gone on from them
	count int        // how many items the rules have, by their productions and Looks
}

// Begin is a state without items.
func (c *Closer) Begin() *Closing {
	return &Closing{Closer: c, looks: map[int]*work.Set{}, grown: work.NewList()}
}

// Lay gives the rule ahead of which a point stands, if one is there, its Looks by an item with each of these.
func (s *Closing) Lay(at Spot, looks *work.Set) {
	right := s.Right(at.Prod)
	if at.Dot == len(right) {
		return
	}
	rule, is := s.Rule(right[at.Dot])
	if !is {
		return
	}
	if s.looks[rule] == nil {
		s.looks[rule] = newSet()
	}
	r := s.behind(at.Prod, at.Dot)
	more := s.looks[rule].Join(r.first)
	if r.isEmpty {
		more += s.looks[rule].Join(looks)
	}
	if more > 0 {
		s.count += more * len(s.own[rule])
		s.grown.Push(rule, 0)
	}
}

// Close lays all items of the rules that were laid, till no rule gets more; false, if the rules have more than MaxItems items.
func (s *Closing) Close() bool {
	for s.count <= api.MaxItems {
		rule, _, is := s.grown.Pop()
		if !is {
			return true
		}
		for _, prod := range s.own[rule] {
			s.Lay(Spot{Prod: prod}, s.looks[rule])
		}
	}
	return false
}

// Count is how many items the rules have, by their productions and Looks.
func (s *Closing) Count() int { return s.count }

// Ahead tells the spots ahead of a production, each with its Looks, in any order.
func (s *Closing) Ahead(yield func(Spot, *work.Set) bool) {
	for rule, looks := range s.looks {
		for _, prod := range s.own[rule] {
			if !yield(Spot{Prod: prod}, looks) {
				return
			}
		}
	}
}

// With are items, and those of the rules: each once, rising.
func (s *Closing) With(l []api.Item) []api.Item {
	l = slices.Clone(l)
	for at, looks := range s.Ahead { // in any order: they are sorted
		for _, look := range looks.All() {
			l = append(l, api.Item{Prod: at.Prod, Look: look})
		}
	}
	return InOrder(l)
}
