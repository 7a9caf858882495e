package print

import (
	"strconv"

	"quoin/api"
	"quoin/text"
)

func (p *printer) rule(r api.RuleLine) {
	p.putIf(r.Open, "open ")
	p.putIf(r.Inline, "inline ")
	p.put("rule ", r.Name)
	inBrackets(p, r.Params, p.word)
	p.putIf(r.Type != "", ": ", r.Type)
	p.put("\n")
	each(p, frame{"\t=", "\n\t|", "\n\t;\n"}, r.Alts, p.alt)
}

func (p *printer) alt(a api.Alt) {
	each(p, frame{" ", " ", ""}, a.Syms, p.ref)
	p.putIf(a.Prec != "", " prec ", a.Prec)
	if !isMeant(a) {
		p.put(" => ")
		p.act(a.Act)
	}
}

// isMeant tells whether an alternative's action is the one that is meant where none is told.
func isMeant(a api.Alt) bool {
	if len(a.Syms) == 1 {
		return a.Act.Kind == api.ActPick && a.Act.At == 0
	}
	return a.Act.Kind == api.ActNone
}

func (p *printer) ref(r api.Ref) {
	p.put(r.Name)
	inBrackets(p, r.Args, p.ref)
}

func (p *printer) act(a api.Act) {
	switch a.Kind {
	case api.ActNone:
		p.put("_")
	case api.ActPick:
		p.put("$", strconv.Itoa(a.At+1))
	case api.ActText:
		quoted, _ := text.Quote(a.Name) // of an action that is right there is one
		p.put(quoted)
	case api.ActNode:
		p.put(a.Name)
		inBrackets(p, a.Kids, p.act)
	}
}
