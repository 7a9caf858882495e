package expand

import (
	"strings"

	"quoin/api"
)

// grower makes the plain grammar: instance by instance, alternative by alternative, choice by choice.
type grower struct {
	instances
	made  api.Plain
	types []string
	order []instance // the grammar's rules, in their order
	left  int        // the rule that is gone through
	at    int        // where its alternative stands that is gone through
	choice
}

func newGrower(m *module) *grower {
	return &grower{instances: instances{module: m, numbers: map[instance]int{}}}
}

// grow makes the grammar from a start.
func (g *grower) grow(start string) {
	if len(g.kinds) > api.MaxKinds { // layer 8 lets fewer be, for now
		panic(api.ErrProds)
	}
	g.addKinds()
	g.named(len(g.kinds) + g.number(instance{rule: g.ruleOf[start]}))
	for ; g.left < len(g.order); g.left++ { // there come more and more of them
		x := g.order[g.left]
		for _, a := range g.line(x).Alts {
			g.at = a.At
			g.walk(newTaken(a, x), 0)
		}
	}
}

func (g *grower) addKinds() {
	g.made.Kinds = g.kinds
	for kind, word := range g.kinds {
		var p api.Prec
		if kind != api.KindEnd && kind != api.KindError {
			p = g.levelOf[word]
		}
		g.made.Precs = append(g.made.Precs, p)
	}
}

// named is a symbol's number in the grammar: an instance that a production names for the first time becomes a rule.
func (g *grower) named(symbol int) int {
	f := g.known(symbol)
	if f == nil {
		return symbol
	}
	if f.place < 0 {
		f.place = len(g.order)
		g.addRule(symbol)
	}
	return len(g.kinds) + f.place
}

func (g *grower) addRule(symbol int) {
	f := g.known(symbol)
	if len(g.order) == api.MaxRules || f.bytes > api.MaxQuote {
		panic(api.ErrProds)
	}
	var b strings.Builder
	g.write(&b, symbol)
	g.order = append(g.order, f.instance)
	g.made.Rules = append(g.made.Rules, b.String())
	g.types = append(g.types, g.line(f.instance).Type)
}

// addProd adds the production that a choice has come to.
func (g *grower) addProd(t *taken) {
	var c counter
	p := api.Prod{Left: g.left, Level: g.level(t.alt.Prec), Act: t.action(&c)}
	if len(g.made.Prods) == api.MaxProds {
		panic(api.ErrProds)
	}
	for _, symbol := range g.right {
		p.Right = append(p.Right, g.named(symbol))
	}
	g.made.Prods = append(g.made.Prods, p)
}

// level is that of the choice's production, whose alternative has this Prec.
func (g *grower) level(prec string) int {
	if prec != "" {
		return g.levelOf[prec].Level
	}
	level := 0
	for _, symbol := range g.right {
		if g.known(symbol) == nil && g.made.Precs[symbol].Level > 0 {
			level = g.made.Precs[symbol].Level
		}
	}
	return level
}
