// Package copies is what layers have in common where they answer with parts of modules: these in memory of their own.
package copies

import "quoin/api"

// Each is a new list of what a list's elements are turned into.
func Each[T any](l []T, turn func(T) T) []T {
	var made []T
	for _, x := range l {
		made = append(made, turn(x))
	}
	return made
}

// What follows are parts of a module in memory of their own.

func Words(l []string) []string {
	return append([]string(nil), l...)
}

func Spec(s api.Spec) api.Spec {
	s.Uses = Each(s.Uses, Use)
	s.Lex = Each(s.Lex, LexLine)
	s.Precs = Each(s.Precs, PrecLine)
	s.Datas = Each(s.Datas, DataLine)
	s.Rules = Each(s.Rules, RuleLine)
	s.Starts = Words(s.Starts)
	return s
}

func Use(u api.Use) api.Use {
	u.Names = append([]api.Rename(nil), u.Names...)
	return u
}

func LexLine(l api.LexLine) api.LexLine {
	l.Re = Regex(l.Re)
	return l
}

func Regex(r api.Regex) api.Regex {
	r.Set = append([]api.Range(nil), r.Set...)
	r.Kids = Each(r.Kids, Regex)
	return r
}

func PrecLine(l api.PrecLine) api.PrecLine {
	l.Names = Words(l.Names)
	return l
}

func DataLine(l api.DataLine) api.DataLine {
	l.Data.Ctors = Each(l.Data.Ctors, Ctor)
	return l
}

func Ctor(c api.Ctor) api.Ctor {
	c.Fields = Words(c.Fields)
	return c
}

func RuleLine(l api.RuleLine) api.RuleLine {
	l.Params = Words(l.Params)
	l.Alts = Each(l.Alts, Alt)
	return l
}

func Alt(a api.Alt) api.Alt {
	a.Syms = Each(a.Syms, Ref)
	a.Act = Act(a.Act)
	return a
}

func Ref(r api.Ref) api.Ref {
	r.Args = Each(r.Args, Ref)
	return r
}

func Act(a api.Act) api.Act {
	a.Kids = Each(a.Kids, Act)
	return a
}
