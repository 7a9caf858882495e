package dfa

import (
	"quoin/api"
)

// numbers gives each row of numbers a number of its own: the map leads from a row, by what stands behind it, to the row that is longer by that.
type numbers map[[2]int]int

// of is the number of a row.
func (n numbers) of(row ...int) int {
	x := 0
	for _, y := range row {
		longer, there := n[[2]int{x, y}]
		if !there {
			longer = len(n) + 1
			n[[2]int{x, y}] = longer
		}
		x = longer
	}
	return x
}

// expression is the number of an expression, which is written as a row: its parts have numbers ahead of it.
func (n numbers) expression(r api.Regex) int {
	row := []int{r.Kind}
	for _, x := range r.Set {
		row = append(row, int(x.Lo), int(x.Hi))
	}
	for _, kid := range r.Kids {
		row = append(row, n.expression(kid))
	}
	return n.of(row...)
}

// refined tells apart, of things that were of one sort, those that have different numbers. Sorts are numbered in the order in which they come.
func refined(sorts, by []int) []int {
	met := map[[2]int]int{}
	finer := make([]int, len(sorts))
	for i, sort := range sorts {
		n, there := met[[2]int{sort, by[i]}]
		if !there {
			n = len(met)
			met[[2]int{sort, by[i]}] = n
		}
		finer[i] = n
	}
	return finer
}

// firsts are, of each sort, the first thing that is of it.
func firsts(sorts []int) []int {
	var l []int
	for i, sort := range sorts {
		if sort == len(l) {
			l = append(l, i)
		}
	}
	return l
}
