package solve

import "quoin/api"

// cell is what can be done in a state at a kind: to shift to a state (below 0: it can't be), and to reduce by productions, rising. By the start's it is accepted.
type cell struct {
	shift int
	prods []int
}

func (c cell) canShift() bool { return c.shift >= 0 }

// isClash tells whether more than one thing can be done.
func (c cell) isClash() bool { return len(c.prods) > 1 || len(c.prods) == 1 && c.canShift() }

// grammar is a plain grammar that may be, with the start's production behind its own.
type grammar struct{ api.Plain }

func (g grammar) isStart(prod int) bool { return prod == len(g.Prods) }

// moves are all that can be made: the shift, then those by the productions. Where these rise, accept is the last, as the start's has the greatest number.
func (g grammar) moves(c cell) []api.Move {
	var l []api.Move
	if c.canShift() {
		l = append(l, api.Move{Do: api.MoveShift, N: c.shift})
	}
	for _, prod := range c.prods {
		l = append(l, g.moveBy(prod))
	}
	return l
}

func (g grammar) moveBy(prod int) api.Move {
	if g.isStart(prod) {
		return api.Move{Do: api.MoveAccept}
	}
	return api.Move{Do: api.MoveReduce, N: prod}
}

// won is the move that stands at a kind.
func (g grammar) won(kind int, c cell) api.Move {
	l := g.moves(c)
	switch {
	case len(l) == 0:
		return api.Move{Do: api.MoveError}
	case !c.canShift() || len(c.prods) == 0:
		return l[0] // of several productions the least stands for all
	}
	return stands(g.bind(kind, c.prods[0]), l[0], l[1])
}

// isSettled tells of a clash at a kind whether precedence says what stands.
func (g grammar) isSettled(kind int, c cell) bool {
	return c.canShift() && len(c.prods) == 1 && g.bind(kind, c.prods[0]) != api.AssocNone
}

// bind is how a kind that can be shifted and a production bind, told as for two of one Level: AssocNone, if one of them has none. (The production is not the start's: at the end nothing is shifted.)
func (g grammar) bind(kind, prod int) int {
	level, p := g.Prods[prod].Level, g.Precs[kind]
	switch {
	case level == 0 || p.Level == 0:
		return api.AssocNone
	case level > p.Level:
		return api.AssocLeft
	case level < p.Level:
		return api.AssocRight
	}
	return p.Assoc
}

// stands is which of two moves stands, by how they bind.
func stands(assoc int, shift, reduction api.Move) api.Move {
	switch assoc {
	case api.AssocLeft:
		return reduction
	case api.AssocNone: // what has no Level is taken as if it bound to the right
		fallthrough
	case api.AssocRight:
		return shift
	}
	return api.Move{Do: api.MoveError}
}
