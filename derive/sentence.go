package derive

import (
	"slices"

	"quoin/api"
)

// lowest are the productions by which rules derive something with the least height, of several the least; noProd, where there is none. They are found round by round: in each one those whose rules all were found in rounds ahead.
func (g *grammar) lowest() []int {
	by := slices.Repeat([]int{noProd}, len(g.Rules))
	missing, uses := make([]int, len(g.Prods)), make([][]int, len(g.Rules))
	var ready []int
	for prod, p := range g.Prods {
		for _, rule := range g.rulesOf(p.Right) {
			missing[prod]++
			uses[rule] = append(uses[rule], prod)
		}
		if missing[prod] == 0 {
			ready = append(ready, prod)
		}
	}
	for len(ready) > 0 {
		slices.Sort(ready)
		var next []int
		for _, prod := range ready {
			rule := g.Prods[prod].Left
			if by[rule] != noProd {
				continue
			}
			by[rule] = prod
			for _, user := range uses[rule] {
				missing[user]--
				if missing[user] == 0 {
					next = append(next, user)
				}
			}
		}
		ready = next
	}
	return by
}

// sentence is a row that is being made, by choices.
type sentence struct {
	*grammar
	own    [][]int // of each rule its productions, in order
	lowest []int
	prods  []int // the choices that are left
	most   int
	row    []int
	used   int // how many productions were
	e      api.Errno
}

func newSentence(g *grammar, prods []int, most int) *sentence {
	s := &sentence{grammar: g, own: make([][]int, len(g.Rules)), lowest: g.lowest(), prods: prods, most: most}
	for prod, p := range g.Prods {
		s.own[p.Left] = append(s.own[p.Left], prod)
	}
	return s
}

// choose is the production that replaces a rule; noProd, if there is none.
func (s *sentence) choose(rule int) int {
	own := s.own[rule]
	if len(own) == 0 || len(s.prods) == 0 || len(s.row) >= s.most {
		return s.lowest[rule]
	}
	n := s.prods[0] % len(own)
	if n < 0 {
		n += len(own)
	}
	s.prods = s.prods[1:]
	return own[n]
}

// tree is the derivation of the row, which is made on the way.
func (s *sentence) tree() api.Deriv {
	var grow func(symbol int) api.Deriv
	grow = func(symbol int) api.Deriv {
		rule, is := s.rule(symbol)
		if !is {
			return s.token(symbol)
		}
		prod := s.choose(rule)
		if !s.use(prod) {
			return api.Deriv{}
		}
		right := s.Prods[prod].Right
		d := newNode(prod, len(right))
		for i := 0; i < len(right) && s.e == api.OK; i++ {
			d.Kids[i] = grow(right[i])
		}
		return d
	}
	return grow(len(s.Kinds) + s.Start)
}

// token lays a kind at the row's end.
func (s *sentence) token(kind int) api.Deriv {
	if len(s.row) == api.MaxToks {
		s.e = api.ErrChart
		return api.Deriv{}
	}
	s.row = append(s.row, kind)
	return api.Deriv{Prod: leaf, Tok: len(s.row) - 1}
}

// use counts a production; false, if it is none, or one too many.
func (s *sentence) use(prod int) bool {
	if prod == noProd {
		s.e = api.ErrNone
		return false
	}
	if s.used == api.MaxToks {
		s.e = api.ErrChart
		return false
	}
	s.used++
	return true
}
