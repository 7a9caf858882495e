package gram

import (
	"quoin/api"
	"quoin/token"
	"quoin/work"
)

// mayBe tells whether a grammar may be.
func mayBe(g api.Plain) bool {
	return token.Kinds(g.Kinds...) == api.OK && precsMayBe(g) && rulesMayBe(g) && prodsMayBe(g)
}

func precsMayBe(g api.Plain) bool {
	if len(g.Precs) != len(g.Kinds) {
		return false
	}
	for kind, p := range g.Precs {
		if !precMayBe(p) || p.Level > 0 && kind <= api.KindError {
			return false
		}
	}
	return true
}

func precMayBe(p api.Prec) bool {
	switch p.Assoc {
	case api.AssocNone:
		return p.Level == 0
	case api.AssocLeft, api.AssocRight, api.AssocNot:
		return p.Level > 0
	}
	return false
}

func rulesMayBe(g api.Plain) bool {
	if len(g.Rules) > api.MaxRules {
		return false
	}
	names := work.NewIndex[string]()
	for _, name := range g.Rules {
		if name == "" || len(name) > api.MaxQuote {
			return false
		}
		if _, isNew, _ := names.At(name); !isNew {
			return false
		}
	}
	return isRule(g, g.Start) // where there are no rules it is none
}

func prodsMayBe(g api.Plain) bool {
	if len(g.Prods) > api.MaxProds {
		return false
	}
	for _, p := range g.Prods {
		if !prodMayBe(g, p) {
			return false
		}
	}
	return true
}

func prodMayBe(g api.Plain, p api.Prod) bool {
	if !isRule(g, p.Left) || len(p.Right) > api.MaxRight || !areSymbols(g, p.Right) || p.Level < 0 {
		return false
	}
	parts := 0
	return actMayBe(p.Act, len(p.Right), &parts)
}

// actMayBe tells whether an action of so many symbols may be. The parts are counted on the way, so that nothing is gone over that has too many.
func actMayBe(a api.Act, symbols int, parts *int) bool {
	*parts++
	if *parts > api.MaxAction {
		return false
	}
	switch a.Kind {
	case api.ActNone:
		return a.At == 0 && a.Name == "" && len(a.Kids) == 0
	case api.ActPick:
		return 0 <= a.At && a.At < symbols && a.Name == "" && len(a.Kids) == 0
	case api.ActText:
		return a.At == 0 && len(a.Name) <= api.MaxQuote && len(a.Kids) == 0
	case api.ActNode:
		return a.At == 0 && a.Name != "" && len(a.Name) <= api.MaxWord && kidsMayBe(a.Kids, symbols, parts)
	}
	return false
}

func kidsMayBe(kids []api.Act, symbols int, parts *int) bool {
	for _, k := range kids {
		if !actMayBe(k, symbols, parts) {
			return false
		}
	}
	return true
}

func isRule(g api.Plain, n int) bool { return 0 <= n && n < len(g.Rules) }

// areSymbols tells whether all of a row may stand in a production.
func areSymbols(g api.Plain, row []int) bool {
	for _, n := range row {
		if n <= api.KindEnd || n >= len(g.Kinds)+len(g.Rules) {
			return false
		}
	}
	return true
}
