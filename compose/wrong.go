package compose

import (
	"slices"

	"quoin/api"
)

// errorWord is the symbol that every module has, whether or not it is a kind.
const errorWord = "error"

// checker gathers what is wrong with modules that are all there.
type checker struct {
	*union
	module int // the one that is looked at, by its place in the order
	wrong  []api.Diag
}

// check is all that is wrong.
func (u *union) check() []api.Diag {
	c := &checker{union: u}
	c.eachModule(func() {
		c.checkUses()
		c.checkRules()
	})
	came := map[declared]struct{}{}
	c.eachModule(func() {
		c.checkKinds()
		c.checkDatas(came)
	})
	c.eachModule(c.checkSymbols)
	if u.isMore {
		c.module = 0
		c.tell(api.ErrItems, 0)
	}
	return c.wrong
}

// eachModule looks at the modules in their order.
func (c *checker) eachModule(look func()) {
	for c.module = range c.modules {
		look()
	}
}

func (c *checker) tell(why api.Errno, at int) {
	c.wrong = append(c.wrong, api.Diag{Module: c.modules[c.module].Name, Why: why, At: at})
}

// tellIf tells what is wrong, if something is.
func (c *checker) tellIf(why api.Errno, at int) {
	if why != api.OK {
		c.tell(why, at)
	}
}

func (c *checker) checkUses() {
	came := map[string]struct{}{}
	for _, u := range c.modules[c.module].Uses {
		for _, x := range c.taken(u) {
			c.tellIf(c.whyNotTaken(x, came), u.At)
			if x.why != api.ErrNone {
				came[x.as] = struct{}{}
			}
		}
	}
}

// whyNotTaken is what is wrong with a name that is taken behind others.
func (c *checker) whyNotTaken(x takenName, came map[string]struct{}) api.Errno {
	_, isThere := came[x.as]
	_, isShut := c.shut[name{c.module, x.as}]
	switch {
	case x.why != api.OK:
		return x.why
	case isThere || isShut:
		return api.ErrThere
	}
	return api.OK
}

func (c *checker) checkRules() {
	for place, line := range c.modules[c.module].Rules {
		c.tellIf(c.whyNoRule(rule{c.module, place}, line), line.At)
	}
}

// whyNoRule is what is wrong with an own rule.
func (c *checker) whyNoRule(r rule, line api.RuleLine) api.Errno {
	switch {
	case c.own[name{r.module, line.Name}] < r.place || slices.ContainsFunc(line.Params, c.isNamed):
		return api.ErrThere
	case !isLike(line, c.line(c.root(r))):
		return api.ErrClash
	}
	return api.OK
}

// isNamed tells whether a word is something else than a parameter may be.
func (c *checker) isNamed(word string) bool {
	_, isRule := c.meant(c.module, word)
	_, isKind := c.kinds[word]
	return isRule || isKind
}

// isLike tells whether a rule may extend another one, as far as their heads go.
func isLike(a, b api.RuleLine) bool {
	return len(a.Params) == len(b.Params) && a.Type == b.Type && a.Inline == b.Inline
}

func (c *checker) checkKinds() {
	for _, line := range c.modules[c.module].Lex {
		if line.Name != "" && c.kinds[line.Name] < c.module {
			c.tell(api.ErrClash, line.At)
		}
	}
}

// declared is a type's name, or a constructor's: one of each may have the same name.
type declared struct {
	isCtor bool
	word   string
}

// checkDatas holds types and constructors against those that came ahead, and adds them.
func (c *checker) checkDatas(came map[declared]struct{}) {
	for _, line := range c.modules[c.module].Datas {
		l := []declared{{word: line.Data.Name}}
		for _, ctor := range line.Data.Ctors {
			l = append(l, declared{isCtor: true, word: ctor.Name})
		}
		isThere := false
		for _, d := range l {
			_, is := came[d]
			isThere = isThere || is
		}
		for _, d := range l { // behind all of the line's: it may have a constructor twice
			came[d] = struct{}{}
		}
		if isThere {
			c.tell(api.ErrClash, line.At)
		}
	}
}

func (c *checker) checkSymbols() {
	for _, line := range c.modules[c.module].Rules {
		for _, a := range line.Alts {
			c.checkRefs(line.Params, a.Syms)
		}
	}
}

// checkRefs tells of symbols that mean nothing, in a rule with parameters.
func (c *checker) checkRefs(params []string, l []api.Ref) {
	for _, r := range l {
		if !slices.Contains(params, r.Name) && !c.isNamed(r.Name) && r.Name != errorWord {
			c.tell(api.ErrUnknown, r.At)
		}
		c.checkRefs(params, r.Args)
	}
}
