package spec

import (
	"slices"

	"quoin/api"
)

// Same tells whether two trees are the same, places aside.
func Same(a, b api.Spec) bool {
	return a.Name == b.Name &&
		slices.EqualFunc(a.Uses, b.Uses, sameUse) &&
		slices.EqualFunc(a.Lex, b.Lex, sameLexLine) &&
		slices.EqualFunc(a.Precs, b.Precs, samePrecLine) &&
		slices.EqualFunc(a.Datas, b.Datas, sameDataLine) &&
		slices.EqualFunc(a.Rules, b.Rules, sameRuleLine) &&
		slices.Equal(a.Starts, b.Starts)
}

func sameUse(a, b api.Use) bool {
	return a.Module == b.Module && slices.Equal(a.Names, b.Names)
}

func sameLexLine(a, b api.LexLine) bool {
	return a.Mode == b.Mode && a.Name == b.Name && a.Push == b.Push && a.Pop == b.Pop && sameRegex(a.Re, b.Re)
}

// sameRegex holds any trees against each other, which regex.Compare does of right ones alone.
func sameRegex(a, b api.Regex) bool {
	return a.Kind == b.Kind && slices.Equal(a.Set, b.Set) && slices.EqualFunc(a.Kids, b.Kids, sameRegex)
}

func samePrecLine(a, b api.PrecLine) bool {
	return a.Assoc == b.Assoc && slices.Equal(a.Names, b.Names)
}

func sameDataLine(a, b api.DataLine) bool {
	return a.Data.Name == b.Data.Name && slices.EqualFunc(a.Data.Ctors, b.Data.Ctors, sameCtor)
}

func sameCtor(a, b api.Ctor) bool {
	return a.Name == b.Name && slices.Equal(a.Fields, b.Fields)
}

func sameRuleLine(a, b api.RuleLine) bool {
	return a.Name == b.Name && a.Open == b.Open && a.Inline == b.Inline && a.Type == b.Type &&
		slices.Equal(a.Params, b.Params) && slices.EqualFunc(a.Alts, b.Alts, sameAlt)
}

func sameAlt(a, b api.Alt) bool {
	return a.Prec == b.Prec && slices.EqualFunc(a.Syms, b.Syms, sameRef) && sameAct(a.Act, b.Act)
}

func sameRef(a, b api.Ref) bool {
	return a.Name == b.Name && slices.EqualFunc(a.Args, b.Args, sameRef)
}

// sameAct holds At against At, too: it is a symbol's number here, and no place.
func sameAct(a, b api.Act) bool {
	return a.Kind == b.Kind && a.At == b.At && a.Name == b.Name && slices.EqualFunc(a.Kids, b.Kids, sameAct)
}
