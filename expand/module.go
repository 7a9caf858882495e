package expand

import (
	"slices"

	"quoin/api"
)

// The words of the kinds that every module has.
const (
	endWord   = "end"
	errorWord = "error"
)

// module is a module in which words can be asked for.
type module struct {
	api.Spec
	kinds   []string
	kindOf  map[string]int
	ruleOf  map[string]int      // the first rule of a name
	levelOf map[string]api.Prec // of the names that have one
}

func newModule(s api.Spec) *module {
	m := &module{Spec: s, kindOf: map[string]int{}, ruleOf: map[string]int{}, levelOf: map[string]api.Prec{}}
	m.addKind(endWord)
	m.addKind(errorWord)
	for _, line := range s.Lex {
		if line.Name != "" {
			m.addKind(line.Name)
		}
	}
	for place, r := range s.Rules {
		if _, is := m.ruleOf[r.Name]; !is {
			m.ruleOf[r.Name] = place
		}
	}
	for i, line := range s.Precs {
		m.addLevel(api.Prec{Level: i + 1, Assoc: line.Assoc}, line.Names)
	}
	return m
}

func (m *module) addKind(word string) {
	if _, is := m.kindOf[word]; !is {
		m.kindOf[word] = len(m.kinds)
		m.kinds = append(m.kinds, word)
	}
}

func (m *module) addLevel(p api.Prec, names []string) {
	for _, word := range names {
		if _, is := m.levelOf[word]; !is {
			m.levelOf[word] = p
		}
	}
}

// The sorts of what a word may mean.
const (
	noSort = iota
	paramSort
	kindSort
	ruleSort
)

// meaning is what a word means: a rule's parameter, a kind, or a rule, by its place among these.
type meaning struct{ sort, place int }

// meant is what a word means as a symbol of a rule that has these parameters.
func (m *module) meant(word string, params []string) meaning {
	if place := slices.Index(params, word); place >= 0 {
		return meaning{paramSort, place}
	}
	if place, is := m.kindOf[word]; is && place != api.KindEnd {
		return meaning{kindSort, place}
	}
	if place, is := m.ruleOf[word]; is {
		return meaning{ruleSort, place}
	}
	return meaning{}
}

// params is how many arguments a meaning takes.
func (m *module) params(x meaning) int {
	if x.sort == ruleSort {
		return len(m.Rules[x.place].Params)
	}
	return 0
}
