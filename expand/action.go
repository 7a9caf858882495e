package expand

import (
	"slices"

	"quoin/api"
	"quoin/copies"
)

// caught is why something was given up; OK, if it was not.
func caught(do func()) (why api.Errno) {
	defer func() {
		if x := recover(); x != nil {
			why = x.(api.Errno) // nothing else panics
		}
	}()
	do()
	return api.OK
}

// mayFill tells whether an action is one, and picks nothing but so many kids.
func mayFill(a api.Act, kids int) bool {
	switch a.Kind {
	case api.ActNone, api.ActNode, api.ActText:
	case api.ActPick:
		if a.At < 0 || a.At >= kids {
			return false
		}
	default:
		return false
	}
	return !slices.ContainsFunc(a.Kids, func(k api.Act) bool { return !mayFill(k, kids) })
}

// counter makes actions, and counts their parts: it gives up as soon as there are too many.
type counter struct{ parts int }

func (c *counter) count() {
	if c.parts == api.MaxAction {
		panic(api.ErrAction)
	}
	c.parts++
}

// filled is an action in which each pick is replaced by what is told for it.
func (c *counter) filled(a api.Act, pick func(at int) api.Act) api.Act {
	if a.Kind == api.ActPick {
		return pick(a.At)
	}
	c.count()
	a.Kids = copies.Each(a.Kids, func(k api.Act) api.Act { return c.filled(k, pick) })
	return a
}

// copied is an action as it is.
func (c *counter) copied(a api.Act) api.Act {
	c.count()
	a.Kids = copies.Each(a.Kids, c.copied)
	return a
}
