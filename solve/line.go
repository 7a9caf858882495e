package solve

import (
	"slices"
	"strconv"
	"strings"

	"quoin/api"
)

// knowsAll tells whether the kinds and the productions of clashes are the grammar's, the start's too.
func (g grammar) knowsAll(l []api.Clash) bool {
	isNone := func(prod int) bool { return prod < 0 || prod > len(g.Prods) }
	for _, c := range l {
		if c.Kind < 0 || c.Kind >= len(g.Kinds) || slices.ContainsFunc(c.Prods, isNone) {
			return false
		}
	}
	return true
}

// line is a clash's line.
func (g grammar) line(c api.Clash) string {
	var made []string
	for _, m := range g.moves(cell{c.Shift, c.Prods}) {
		made = append(made, told(m))
	}
	line := "state " + strconv.Itoa(c.State) + ", " + g.Kinds[c.Kind] + ": " + strings.Join(made, ", ") + ": " + told(c.Won)
	if c.Settled {
		line += " (settled)"
	}
	return line
}

// told is a move in words.
func told(m api.Move) string {
	switch m.Do {
	case api.MoveShift:
		return "shift " + strconv.Itoa(m.N)
	case api.MoveReduce:
		return "reduce " + strconv.Itoa(m.N)
	case api.MoveAccept:
		return "accept"
	}
	return "error"
}
