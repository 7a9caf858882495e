package spec

import (
	"strconv"

	"quoin/api"
)

func (r *reader) rule() {
	r.room(len(r.made.Rules), api.MaxSpecs)
	var l api.RuleLine
	l.Open = r.takes("open")
	l.Inline = r.takes("inline")
	r.must("rule")
	l.At = r.next.at
	l.Name = r.word()
	l.Params = r.wordsIn(api.MaxParams)
	if r.takes(":") {
		l.Type = r.word()
	}
	r.must("=")
	for more := true; more; more = r.takes("|") {
		l.Alts = append(l.Alts, r.alt(len(l.Alts)))
	}
	r.must(";")
	r.made.Rules = append(r.made.Rules, l)
}

// alt is an alternative behind so many others of its rule.
func (r *reader) alt(many int) api.Alt {
	if !r.seesAlt() {
		r.giveUp(api.ErrSpec)
	}
	r.room(many, api.MaxSpecs)
	a := api.Alt{At: r.next.at}
	for r.next.sort == wordToken {
		a.Syms = append(a.Syms, r.sym(len(a.Syms), api.MaxSyms))
	}
	if r.takes("prec") {
		a.Prec = r.word()
	}
	a.Act = untold(len(a.Syms))
	if r.takes(makes) {
		a.Act = r.act(len(a.Syms))
	}
	return a
}

// seesAlt tells whether the next token may be an alternative's first, or the one behind an alternative that has none.
func (r *reader) seesAlt() bool {
	return r.next.sort == wordToken || r.sees("prec") || r.sees(makes) || r.sees("|") || r.sees(";")
}

// untold is the action of an alternative of so many symbols that tells none.
func untold(syms int) api.Act {
	if syms == 1 {
		return api.Act{Kind: api.ActPick}
	}
	return api.Act{Kind: api.ActNone}
}

// sym is a symbol behind so many others of its list.
func (r *reader) sym(many, most int) api.Ref {
	s := api.Ref{At: r.next.at}
	s.Name = r.nextWord(many, most)
	if !r.sees("(") {
		return s
	}
	r.enter()
	for more := true; more; more = r.takes(",") {
		s.Args = append(s.Args, r.sym(len(s.Args), api.MaxParams))
	}
	r.leave()
	return s
}

// act is an action of an alternative of so many symbols.
func (r *reader) act(syms int) api.Act {
	switch {
	case r.takes("$"):
		return api.Act{Kind: api.ActPick, At: r.pick(syms)}
	case r.takes(noneSign):
		return api.Act{Kind: api.ActNone}
	case r.next.sort == quotedToken:
		return api.Act{Kind: api.ActText, Name: r.take(quotedToken).text}
	}
	a := api.Act{Kind: api.ActNode, Name: r.word()}
	if !r.sees("(") {
		return a
	}
	r.enter()
	for more := true; more; more = r.takes(",") {
		a.Kids = append(a.Kids, r.kid(len(a.Kids), syms))
	}
	r.leave()
	return a
}

// kid is an action within another one, behind so many others there.
func (r *reader) kid(many, syms int) api.Act {
	if r.seesAct() { // what is no action is wrong ahead of its being one too many
		r.room(many, api.MaxFields)
	}
	return r.act(syms)
}

// seesAct tells whether the next token may be an action's first.
func (r *reader) seesAct() bool {
	return r.next.sort == wordToken || r.next.sort == quotedToken || r.sees("$") || r.sees(noneSign)
}

// pick is the symbol, from 0 on, whose number stands behind a $.
func (r *reader) pick(syms int) int {
	if r.next.sort != numberToken {
		r.giveUp(api.ErrSpec)
	}
	n, _ := strconv.Atoi(r.next.text) // of digits that are too many: the greatest number
	if r.next.text[0] == '0' || n > syms {
		r.giveUp(api.ErrArg)
	}
	r.take(numberToken)
	return n - 1
}
