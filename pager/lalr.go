package pager

import (
	"quoin/api"
	"quoin/states"
)

// oneEach is an automaton with all states of one core put together. Those to which two of one core go on are of one core, too, and so the first state of each core is met from the first of another one: the order in which cores are met in the one automaton is that of the other one's states.
func oneEach(a api.Auto, cores []int) api.Auto {
	var made api.Auto
	for s, core := range cores {
		if core == len(made.States) {
			made.States = append(made.States, nil)
			made.Next = append(made.Next, coresAt(cores, a.Next[s]))
		}
		made.States[core] = append(made.States[core], a.States[s]...)
	}
	for core, l := range made.States {
		made.States[core] = states.InOrder(l)
	}
	return made
}

// coresAt are the numbers of the cores of states, nowhere of none.
func coresAt(cores, row []int) []int {
	var l []int
	for _, to := range row {
		if to != nowhere {
			to = cores[to]
		}
		l = append(l, to)
	}
	return l
}
