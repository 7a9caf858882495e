package table

import (
	"slices"

	"quoin/api"
)

// pack is a table that may be in little room.
func pack(t api.Table, kinds, rules int) api.Packed {
	p := api.Packed{Kinds: kinds, Rules: rules}
	var moves, gotos [][]int
	for s, row := range t.Moves {
		most := usual(row)
		p.Default = append(p.Default, most)
		moves = append(moves, columns(row, func(m api.Move) bool { return m.Do != api.MoveError && m != most }))
		gotos = append(gotos, columns(t.Goto[s], func(to int) bool { return to != -1 }))
	}
	p.Base, p.Check = laid(moves, kinds)
	p.Cell = cells(t.Moves, p.Base, p.Check)
	p.GotoBase, p.GotoCheck = laid(gotos, rules)
	p.GotoCell = cells(t.Goto, p.GotoBase, p.GotoCheck)
	return p
}

// columns are those of a row's entries: rising.
func columns[V any](row []V, isEntry func(V) bool) []int {
	var l []int
	for column, v := range row {
		if isEntry(v) {
			l = append(l, column)
		}
	}
	return l
}

// laid is where rows of entries stand, which are told by their columns: of each row its base, and of each place whose it is: as many places as the last one needs, and at least so many.
func laid(rows [][]int, least int) (bases, whose []int) {
	bases = make([]int, len(rows))
	whose = slices.Repeat([]int{-1}, least)
	var t taken
	for _, s := range longestFirst(rows) {
		bases[s] = t.leastBase(rows[s])
		for _, column := range rows[s] {
			place := bases[s] + column
			for len(whose) <= place {
				whose = append(whose, -1)
			}
			whose[place] = s
			t.take(place)
		}
	}
	return bases, whose
}

// longestFirst are rows' numbers, in the order in which they are laid: what is long finds no gap later on.
func longestFirst(rows [][]int) []int {
	l := make([]int, len(rows))
	for s := range l {
		l[s] = s
	}
	slices.SortStableFunc(l, func(a, b int) int { return len(rows[b]) - len(rows[a]) })
	return l
}

// cells are what stands at each place: of a place that is no row's nothing.
func cells[V any](rows [][]V, bases, whose []int) []V {
	l := make([]V, len(whose))
	for place, s := range whose {
		if s >= 0 {
			l[place] = rows[s][place-bases[s]]
		}
	}
	return l
}
