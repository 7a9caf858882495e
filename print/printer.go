package print

import (
	"strings"

	"quoin/api"
	"quoin/regex"
)

// firstMode is the mode of scanner rules ahead of which none is told.
const firstMode = "main"

// printer writes the text of what is right. It gives a text up that has more than most bytes: then no list is gone on with.
type printer struct {
	strings.Builder
	most int
	mode string // the one in which the next scanner rule would be
}

// isLong tells whether the text has more bytes than it may have.
func (p *printer) isLong() bool {
	return p.Len() > p.most
}

// put writes texts, one behind the other.
func (p *printer) put(l ...string) {
	for _, s := range l {
		p.WriteString(s)
	}
}

// putIf writes texts, if something holds.
func (p *printer) putIf(holds bool, l ...string) {
	if holds {
		p.put(l...)
	}
}

// word writes a word of a list.
func (p *printer) word(s string) {
	p.put(s)
}

// frame is what stands around the elements of a list that has some.
type frame struct{ ahead, between, behind string }

// each writes a list's elements in a frame; a list without elements has none.
func each[T any](p *printer, f frame, l []T, write func(T)) {
	for i, x := range l {
		if p.isLong() {
			return
		}
		p.putIf(i == 0, f.ahead)
		p.putIf(i > 0, f.between)
		write(x)
	}
	p.putIf(len(l) > 0, f.behind)
}

// inBrackets writes a list in ( ), if it has something.
func inBrackets[T any](p *printer, l []T, write func(T)) {
	each(p, frame{"(", ", ", ")"}, l, write)
}

// inLines writes a group whose elements are lines, with an empty one ahead of the first.
func inLines[T any](p *printer, l []T, write func(T)) {
	each(p, frame{"\n", "", ""}, l, write)
}

// module writes a whole module.
func (p *printer) module(s api.Spec) {
	p.put("module ", s.Name, ";\n")
	for _, write := range groups() {
		write(p, s)
	}
}

// groups are the ways in which a module's groups are written, in their order.
func groups() []func(*printer, api.Spec) {
	return []func(*printer, api.Spec){
		(*printer).uses,
		(*printer).scanner,
		(*printer).levels,
		(*printer).types,
		(*printer).rules,
		(*printer).starts,
	}
}

func (p *printer) uses(s api.Spec)    { inLines(p, s.Uses, p.use) }
func (p *printer) scanner(s api.Spec) { inLines(p, s.Lex, p.lexLine) }
func (p *printer) levels(s api.Spec)  { inLines(p, s.Precs, p.level) }
func (p *printer) types(s api.Spec)   { inLines(p, s.Datas, p.dataLine) }
func (p *printer) rules(s api.Spec)   { each(p, frame{"\n", "\n", ""}, s.Rules, p.rule) }
func (p *printer) starts(s api.Spec)  { each(p, frame{"\nstart ", " ", ";\n"}, s.Starts, p.word) }

func (p *printer) use(u api.Use) {
	p.put("use ", u.Module)
	each(p, frame{" (", ", ", ")"}, u.Names, p.rename)
	p.put(";\n")
}

func (p *printer) rename(n api.Rename) {
	p.put(n.Name)
	p.putIf(n.As != n.Name, " as ", n.As)
}

func (p *printer) lexLine(l api.LexLine) {
	p.putIf(l.Mode != p.mode, "mode ", l.Mode, ";\n")
	p.mode = l.Mode
	p.putIf(l.Name != "", "token ", l.Name, " = ")
	p.putIf(l.Name == "", "skip = ")
	re, _ := regex.Text(l.Re) // of a module that is right there is one
	p.put(re)
	p.putIf(l.Pop, " pop")
	p.putIf(l.Push != "", " push ", l.Push)
	p.put(";\n")
}

func (p *printer) level(l api.PrecLine) {
	p.put(assocKey(l.Assoc))
	each(p, frame{" ", " ", ""}, l.Names, p.word)
	p.put(";\n")
}

// assocKey is the key of a level.
func assocKey(assoc int) string {
	switch assoc {
	case api.AssocLeft:
		return "left"
	case api.AssocRight:
		return "right"
	}
	return "none"
}

func (p *printer) dataLine(l api.DataLine) {
	p.put("type ", l.Data.Name)
	each(p, frame{" = ", " | ", ";\n"}, l.Data.Ctors, p.ctor)
}

func (p *printer) ctor(c api.Ctor) {
	p.put(c.Name)
	inBrackets(p, c.Fields, p.word)
}
