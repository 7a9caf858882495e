package expand

import (
	"slices"

	"quoin/api"
	"quoin/spec"
)

// checker gathers what is wrong with a module.
type checker struct {
	*module
	wrong []api.Diag
}

// look is a module, and what is wrong with it.
func look(s api.Spec, start string) (*module, []api.Diag) {
	if !spec.Right(s) {
		return nil, []api.Diag{{Module: s.Name, Why: api.ErrArg}}
	}
	c := checker{module: newModule(s)}
	c.checkNames()
	c.checkSymbols()
	c.checkLevels()
	c.checkStart(start)
	return c.module, c.wrong
}

func (c *checker) tell(why api.Errno, at int) {
	c.wrong = append(c.wrong, api.Diag{Module: c.Name, Why: why, At: at})
}

func (c *checker) checkNames() {
	for place, r := range c.Rules {
		if _, isKind := c.kindOf[r.Name]; isKind || c.ruleOf[r.Name] < place {
			c.tell(api.ErrThere, r.At)
		}
		if c.clash(r.Params) {
			c.tell(api.ErrThere, r.At)
		}
	}
}

// clash tells whether one of a rule's parameters has a name that is taken.
func (c *checker) clash(params []string) bool {
	for i, word := range params {
		_, isKind := c.kindOf[word]
		_, isRule := c.ruleOf[word]
		if isKind || isRule || slices.Contains(params[:i], word) {
			return true
		}
	}
	return false
}

func (c *checker) checkSymbols() {
	for _, r := range c.Rules {
		for _, a := range r.Alts {
			c.checkRefs(a.Syms, r.Params)
		}
	}
}

// checkRefs looks at symbols of a rule that has these parameters.
func (c *checker) checkRefs(l []api.Ref, params []string) {
	for _, r := range l {
		x := c.meant(r.Name, params)
		switch {
		case x.sort == noSort:
			c.tell(api.ErrUnknown, r.At)
		case c.params(x) != len(r.Args):
			c.tell(api.ErrSort, r.At)
		}
		c.checkRefs(r.Args, params)
	}
}

func (c *checker) checkLevels() {
	for _, r := range c.Rules {
		for _, a := range r.Alts {
			if _, is := c.levelOf[a.Prec]; !is && a.Prec != "" {
				c.tell(api.ErrUnknown, a.At)
			}
		}
	}
}

func (c *checker) checkStart(start string) {
	place, is := c.ruleOf[start]
	if !is {
		c.tell(api.ErrNone, 0)
		return
	}
	if r := c.Rules[place]; r.Inline || len(r.Params) > 0 {
		c.tell(api.ErrSort, r.At)
	}
}
