package spec

import "quoin/api"

// Modes are its modes' names.
func Modes(s api.Spec) []string {
	l := []string{mainMode}
	came := map[string]struct{}{mainMode: {}}
	for _, line := range s.Lex {
		if _, is := came[line.Mode]; !is {
			came[line.Mode] = struct{}{}
			l = append(l, line.Mode)
		}
	}
	return l
}

// Lexer is its scanner, by modes and kinds.
func Lexer(s api.Spec, modes []string, kinds ...string) (api.Scanner, api.Errno) {
	modePlaces, kindPlaces := places(modes), places(kinds)
	made := api.Scanner{Modes: make([][]api.LexRule, len(modes))}
	for _, line := range s.Lex {
		mode, isMode := modePlaces[line.Mode]
		push, isPush := pushOf(line, modePlaces)
		if !isMode || !isPush {
			return api.Scanner{}, api.ErrMode
		}
		kind, isKind := kindOf(line, kindPlaces)
		if !isKind {
			return api.Scanner{}, api.ErrKind
		}
		rule := api.LexRule{Re: copied(line.Re), Kind: kind, Push: push, Pop: line.Pop}
		made.Modes[mode] = append(made.Modes[mode], rule)
	}
	return made, api.OK
}

// places are the first places of names.
func places(names []string) map[string]int {
	m := make(map[string]int, len(names))
	for at, name := range names {
		if _, is := m[name]; !is {
			m[name] = at
		}
	}
	return m
}

// pushOf is the mode, from 1 on, that a line goes into.
func pushOf(line api.LexLine, modes map[string]int) (int, bool) {
	if line.Push == "" {
		return 0, true
	}
	mode, is := modes[line.Push]
	return mode + 1, is
}

// kindOf is the kind of a line's tokens; the first two are never a rule's.
func kindOf(line api.LexLine, kinds map[string]int) (int, bool) {
	if line.Name == "" {
		return 0, true
	}
	kind, is := kinds[line.Name]
	return kind, is && kind > api.KindError
}

// copied is an expression in memory of its own.
func copied(r api.Regex) api.Regex {
	c := api.Regex{Kind: r.Kind, Set: append([]api.Range(nil), r.Set...)}
	for _, kid := range r.Kids {
		c.Kids = append(c.Kids, copied(kid))
	}
	return c
}
