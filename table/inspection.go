package table

import "iter"

// check tells of one of a table's states whether something is so.
type check func(state int) bool

// inspection is checks in a row, and the function that goes through them: it tells the least state of which one of them is not so; -1, if there is none.
type inspection struct {
	checks  []check
	through func(checks []check) int
}

func (i inspection) wrong() int { return i.through(i.checks) }

// among goes through the checks of each of some states, which rise.
func among(states iter.Seq[int]) func(checks []check) int {
	return func(checks []check) int {
		for s := range states {
			for _, isSo := range checks {
				if !isSo(s) {
					return s
				}
			}
		}
		return -1
	}
}
