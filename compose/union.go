package compose

import (
	"slices"

	"quoin/api"
)

// union is modules as one: the rules that come, by number, in their order.
type union struct {
	*scope
	numbers map[rule]int
	parts   [][]rule   // each rule, and behind it those that extend it
	names   []string   // the rules' names
	params  [][]string // the rules' parameters
	isMore  bool       // something is more than layer 8 lets be; then the rules may have no names
}

func newUnion(s *scope) *union {
	u := &union{scope: s, numbers: map[rule]int{}}
	u.eachRule(func(r rule) {
		if u.root(r) == r {
			u.numbers[r] = len(u.parts)
			u.parts = append(u.parts, []rule{r})
		}
	})
	u.eachRule(func(r rule) {
		if root := u.root(r); root != r {
			n := u.numbers[root]
			u.parts[n] = append(u.parts[n], r)
		}
	})
	u.isMore = u.hasMore()
	if !u.isMore {
		u.nameRules()
		u.isMore = slices.ContainsFunc(u.names, isLong) || slices.ContainsFunc(slices.Concat(u.params...), isLong)
	}
	return u
}

// eachRule goes over all modules' own rules in order.
func (u *union) eachRule(do func(rule)) {
	for module, s := range u.modules {
		for place := range s.Rules {
			do(rule{module, place})
		}
	}
}

// hasMore tells whether a list of what comes has more than layer 8 lets be.
func (u *union) hasMore() bool {
	lex, precs, datas := 0, 0, 0
	for _, s := range u.modules {
		lex += len(s.Lex)
		precs += len(s.Precs)
		datas += len(s.Datas)
	}
	return max(lex, precs, datas, len(u.parts)) > api.MaxSpecs || slices.ContainsFunc(u.parts, u.hasMoreAlts)
}

// hasMoreAlts tells whether a rule's parts have too many alternatives together.
func (u *union) hasMoreAlts(parts []rule) bool {
	alts := 0
	for _, r := range parts {
		alts += len(u.line(r).Alts)
	}
	return alts > api.MaxSpecs
}

// isLong tells whether a word has more bytes than one may have.
func isLong(word string) bool {
	return len(word) > api.MaxWord
}

// called is what a word of a module, which is no parameter, is in what comes: the name of the rule that it means, or as it was.
func (u *union) called(module int, word string) string {
	if r, is := u.meant(module, word); is {
		return u.names[u.numbers[r]]
	}
	return word
}
