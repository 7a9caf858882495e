package compose

import "quoin/api"

// each is a new list of what a list's elements are turned into.
func each[T any](l []T, turn func(T) T) []T {
	var made []T
	for _, x := range l {
		made = append(made, turn(x))
	}
	return made
}

// What follows are parts of a module in memory of their own.

func copyWords(l []string) []string {
	return append([]string(nil), l...)
}

func copyLexLine(l api.LexLine) api.LexLine {
	l.Re = copyRegex(l.Re)
	return l
}

func copyRegex(r api.Regex) api.Regex {
	r.Set = append([]api.Range(nil), r.Set...)
	r.Kids = each(r.Kids, copyRegex)
	return r
}

func copyPrecLine(l api.PrecLine) api.PrecLine {
	l.Names = copyWords(l.Names)
	return l
}

func copyDataLine(l api.DataLine) api.DataLine {
	l.Data.Ctors = each(l.Data.Ctors, copyCtor)
	return l
}

func copyCtor(c api.Ctor) api.Ctor {
	c.Fields = copyWords(c.Fields)
	return c
}

func copyAct(a api.Act) api.Act {
	a.Kids = each(a.Kids, copyAct)
	return a
}
