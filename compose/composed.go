package compose

import (
	"slices"

	"quoin/api"
	"quoin/copies"
)

// composed is what comes.
func (u *union) composed() api.Spec {
	first := u.modules[0]
	made := api.Spec{Name: first.Name}
	for _, s := range u.modules {
		made.Lex = append(made.Lex, copies.Each(s.Lex, copies.LexLine)...)
		made.Precs = append(made.Precs, copies.Each(s.Precs, copies.PrecLine)...)
		made.Datas = append(made.Datas, copies.Each(s.Datas, copies.DataLine)...)
	}
	for number := range u.parts {
		made.Rules = append(made.Rules, u.ruleLine(number))
	}
	for _, word := range first.Starts {
		made.Starts = append(made.Starts, u.called(0, word))
	}
	return made
}

// ruleLine is a rule that comes, with the alternatives of those that extend it.
func (u *union) ruleLine(number int) api.RuleLine {
	parts := u.parts[number]
	made := u.line(parts[0])
	made.Name = u.names[number]
	made.Open = true
	made.Params = u.params[number]
	made.Alts = nil
	for _, r := range parts {
		line := u.line(r)
		w := writer{in: u, module: r.module, params: line.Params, now: made.Params}
		made.Alts = append(made.Alts, copies.Each(line.Alts, w.alt)...)
	}
	return made
}

// writer writes alternatives of one module's rule as those of what comes.
type writer struct {
	in     *union
	module int
	params []string // as they are called in the alternatives
	now    []string // as they are called in what comes
}

func (w writer) alt(a api.Alt) api.Alt {
	a.Syms = copies.Each(a.Syms, w.ref)
	a.Act = copies.Act(a.Act)
	return a
}

func (w writer) ref(r api.Ref) api.Ref {
	r.Name = w.word(r.Name)
	r.Args = copies.Each(r.Args, w.ref)
	return r
}

// word is what a symbol's name is in what comes: a parameter hides what else has its name.
func (w writer) word(word string) string {
	if place := slices.Index(w.params, word); place >= 0 {
		return w.now[place]
	}
	return w.in.called(w.module, word)
}
