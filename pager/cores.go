package pager

import (
	"quoin/api"
	"quoin/states"
)

// textOf is a text that no other core has: two bytes of a production, and one of a place in it, both of which are small enough.
func textOf(core []states.Spot) string {
	text := make([]byte, 0, 3*len(core))
	for _, at := range core {
		text = append(text, byte(at.Prod>>8), byte(at.Prod), byte(at.Dot))
	}
	return string(text)
}

// coresOf is of each state of an automaton the number of its core, in the order in which they are first met.
func coresOf(g *states.Grammar, a api.Auto) []int {
	numbers := map[string]int{}
	var l []int
	for _, state := range a.States {
		text := textOf(states.Core(g.Kernel(states.InOrder(state))))
		n, is := numbers[text]
		if !is {
			n = len(numbers)
			numbers[text] = n
		}
		l = append(l, n)
	}
	return l
}
