package spec

import (
	"quoin/api"
	"quoin/regex"
)

// Right tells whether a tree may be some text's, places aside.
func Right(s api.Spec) bool {
	return Word(s.Name) &&
		areAll(s.Uses, 0, api.MaxSpecs, isUse) &&
		areAll(s.Lex, 0, api.MaxSpecs, isLexLine) &&
		areAll(s.Precs, 0, api.MaxSpecs, isPrecLine) &&
		areAll(s.Datas, 0, api.MaxSpecs, isDataLine) &&
		areAll(s.Rules, 0, api.MaxSpecs, isRuleLine) &&
		areAll(s.Starts, 0, api.MaxSpecs, Word)
}

// areAll tells whether a list has neither too few nor too many, and all are what they must be.
func areAll[T any](l []T, least, most int, is func(T) bool) bool {
	if len(l) < least || len(l) > most {
		return false
	}
	for _, x := range l {
		if !is(x) {
			return false
		}
	}
	return true
}

// isNoneOrWord tells whether a word stands, or nothing, where one may be left out.
func isNoneOrWord(s string) bool {
	return s == "" || Word(s)
}

func isUse(u api.Use) bool {
	return Word(u.Module) && areAll(u.Names, 0, api.MaxSpecs, isRename)
}

func isRename(n api.Rename) bool {
	return Word(n.Name) && Word(n.As)
}

func isLexLine(l api.LexLine) bool {
	_, e := regex.Text(l.Re) // there is one just of an expression that is right, and short enough
	return Word(l.Mode) && isNoneOrWord(l.Name) && e == api.OK && isNoneOrWord(l.Push)
}

func isPrecLine(l api.PrecLine) bool {
	isAssoc := l.Assoc == api.AssocLeft || l.Assoc == api.AssocRight || l.Assoc == api.AssocNot
	return isAssoc && areAll(l.Names, 1, api.MaxSpecs, Word)
}

func isDataLine(l api.DataLine) bool {
	return Word(l.Data.Name) && areAll(l.Data.Ctors, 1, api.MaxSpecs, isCtor)
}

func isCtor(c api.Ctor) bool {
	return Word(c.Name) && areAll(c.Fields, 0, api.MaxFields, Word)
}

func isRuleLine(l api.RuleLine) bool {
	return Word(l.Name) && areAll(l.Params, 0, api.MaxParams, Word) && isNoneOrWord(l.Type) &&
		areAll(l.Alts, 1, api.MaxSpecs, isAlt)
}

func isAlt(a api.Alt) bool {
	return areAll(a.Syms, 0, api.MaxSyms, isSym) && isNoneOrWord(a.Prec) && isAct(a.Act, len(a.Syms), api.MaxNest)
}

func isSym(r api.Ref) bool {
	return isRef(r, api.MaxNest)
}

// isRef tells whether a symbol may be where so many levels may still be opened.
func isRef(r api.Ref, levels int) bool {
	if !Word(r.Name) || len(r.Args) > 0 && levels == 0 {
		return false
	}
	return areAll(r.Args, 0, api.MaxParams, func(arg api.Ref) bool { return isRef(arg, levels-1) })
}

// isAct tells whether an action may be, of an alternative of so many symbols, where so many levels may still be opened.
func isAct(a api.Act, syms, levels int) bool {
	switch a.Kind {
	case api.ActNone:
		return a.At == 0 && a.Name == "" && len(a.Kids) == 0
	case api.ActPick:
		return a.At >= 0 && a.At < syms && a.Name == "" && len(a.Kids) == 0
	case api.ActText:
		return a.At == 0 && len(a.Name) <= api.MaxQuote && len(a.Kids) == 0
	case api.ActNode:
		return a.At == 0 && Word(a.Name) && areKids(a.Kids, syms, levels)
	}
	return false
}

// areKids tells whether a node may have these kids.
func areKids(l []api.Act, syms, levels int) bool {
	if len(l) > 0 && levels == 0 {
		return false
	}
	return areAll(l, 0, api.MaxFields, func(kid api.Act) bool { return isAct(kid, syms, levels-1) })
}
