package compose

import (
	"slices"
	"strconv"
)

const (
	keptBytes   = 26 // how many bytes of a name stand ahead of a number
	leastNumber = 2
)

// namer makes names that nothing has.
type namer struct {
	there map[string]struct{} // names that are not free
	least map[string]int      // of what stands ahead of a number the least one that may be free
}

func (n *namer) add(l ...string) {
	for _, word := range l {
		n.there[word] = struct{}{}
	}
}

func (n *namer) isFree(word string) bool {
	_, is := n.there[word]
	return !is
}

// free is the first name, of those that are made of a word, that is free, and none of some more.
func (n *namer) free(word string, more ...string) string {
	ahead := word[:min(len(word), keptBytes)] + "_"
	number := max(n.least[ahead], leastNumber)
	for !n.isFree(numbered(ahead, number)) {
		number++
	}
	n.least[ahead] = number // names that are there stay there: the next search need not begin anew
	for !n.isFree(numbered(ahead, number)) || slices.Contains(more, numbered(ahead, number)) {
		number++
	}
	return numbered(ahead, number)
}

func numbered(ahead string, number int) string {
	return ahead + strconv.Itoa(number)
}

// newNamer is one for which no word that a rule, a parameter or a kind has is free.
func newNamer(s *scope) *namer {
	n := &namer{there: map[string]struct{}{}, least: map[string]int{}}
	for _, module := range s.modules {
		for _, line := range module.Rules {
			n.add(line.Name)
			n.add(line.Params...)
		}
		for _, line := range module.Lex {
			n.add(line.Name)
		}
	}
	return n
}

// nameRules gives the rules that come their names, and then their parameters.
func (u *union) nameRules() {
	n := newNamer(u.scope)
	came := map[string]struct{}{}
	for _, parts := range u.parts {
		word := u.line(parts[0]).Name
		_, isThere := came[word]
		_, isKind := u.kinds[word]
		if isThere || isKind || word == errorWord {
			word = n.free(word)
			n.add(word)
		}
		came[word] = struct{}{}
		u.names = append(u.names, word)
	}
	for _, parts := range u.parts {
		u.params = append(u.params, n.params(u.line(parts[0]).Params, came))
	}
}

// params are a rule's parameters; those that have a rule's name get another one.
func (n *namer) params(l []string, rules map[string]struct{}) []string {
	var made []string
	for _, word := range l {
		if _, is := rules[word]; is {
			word = n.free(word, made...)
		}
		made = append(made, word)
	}
	return made
}
