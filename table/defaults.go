package table

import (
	"maps"
	"slices"

	"quoin/api"
)

// usual is the reduction that a state makes at most of its kinds, of these the least; else MoveError.
func usual(row []api.Move) api.Move {
	often := map[int]int{}
	for _, m := range row {
		if m.Do == api.MoveReduce {
			often[m.N]++
		}
	}
	most := api.Move{Do: api.MoveError}
	for _, prod := range slices.Sorted(maps.Keys(often)) {
		if most.Do == api.MoveError || often[prod] > often[most.N] {
			most = api.Move{Do: api.MoveReduce, N: prod}
		}
	}
	return most
}

// withDefaults is a table in which each state's usual move stands where an error was.
func withDefaults(t api.Table) api.Table {
	var made api.Table
	for s, row := range t.Moves {
		row = slices.Clone(row)
		most := usual(row)
		for kind, m := range row {
			if m.Do == api.MoveError {
				row[kind] = most
			}
		}
		made.Moves, made.Goto = append(made.Moves, row), append(made.Goto, slices.Clone(t.Goto[s]))
	}
	return made
}
