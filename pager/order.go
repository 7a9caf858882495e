package pager

// order is how states are numbered anew: as they are met going through them by their new numbers, and the symbols of each.
type order struct {
	met    []int // their numbers until now
	number []int // by their numbers until now; nowhere, if they are not met
}

// inOrderMet is the order of states that lead to each other; those to which no way leads from 0 are not met.
func inOrderMet(next [][]int) order {
	o := order{[]int{0}, make([]int, len(next))}
	for n := range next {
		o.number[n] = nowhere
	}
	o.number[0] = 0
	for at := 0; at < len(o.met); at++ { // there come more and more of them
		for _, to := range next[o.met[at]] {
			if to != nowhere && o.number[to] == nowhere {
				o.number[to] = len(o.met)
				o.met = append(o.met, to)
			}
		}
	}
	return o
}

// renamed are states by their new numbers.
func (o order) renamed(row []int) []int {
	l := make([]int, len(row))
	for symbol, to := range row {
		l[symbol] = nowhere
		if to != nowhere {
			l[symbol] = o.number[to]
		}
	}
	return l
}
