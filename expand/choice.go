package expand

import "quoin/api"

// maxInlined is how many symbols may be inlined in one choice.
const maxInlined = 256

// choice is how far one has come, from the left.
type choice struct {
	right   []int // the symbols that stand
	inlined int   // how many were inlined
}

// taken is an alternative that a choice has taken: the outermost one, or one that replaces a symbol of another.
type taken struct {
	alt   api.Alt
	of    instance
	parts []part
	outer *taken // the one of which it replaces a symbol; nil, if it is the outermost
	place int    // that symbol's
}

// part is what became of a symbol: what replaces it, or, if nothing does, where it stands.
type part struct {
	inner *taken
	at    int
}

func newTaken(a api.Alt, of instance) *taken {
	return &taken{alt: a, of: of, parts: make([]part, len(a.Syms))}
}

// walk meets the symbols of an alternative from one on, and those around it; of each choice that is made so, in order, a production comes.
func (g *grower) walk(t *taken, place int) {
	switch {
	case place < len(t.parts):
		g.meet(t, place)
	case t.outer != nil:
		g.walk(t.outer, t.place+1)
	default:
		g.addProd(t)
	}
}

// meet takes one symbol of an alternative, and goes on behind it.
func (g *grower) meet(t *taken, place int) {
	symbol := g.symbol(t.alt.Syms[place], t.of)
	if f := g.known(symbol); f != nil && g.line(f.instance).Inline {
		g.inline(t, place, f.instance)
		return
	}
	at := len(g.right)
	if at == api.MaxRight {
		panic(api.ErrProds)
	}
	t.parts[place] = part{at: at}
	g.right = append(g.right, symbol)
	g.walk(t, place+1)
	g.right = g.right[:at]
}

// inline puts each alternative of an instance in the place of a symbol, one after the other.
func (g *grower) inline(t *taken, place int, x instance) {
	if t.isWithin(x) {
		panic(api.ErrInline)
	}
	if g.inlined == maxInlined {
		panic(api.ErrProds)
	}
	g.inlined++
	for _, a := range g.line(x).Alts {
		inner := newTaken(a, x)
		inner.outer, inner.place = t, place
		t.parts[place] = part{inner: inner}
		g.walk(inner, 0)
	}
	g.inlined--
}

// isWithin tells whether an alternative is one of an instance's, or stands in one.
func (t *taken) isWithin(x instance) bool {
	for ; t != nil; t = t.outer {
		if t.of == x {
			return true
		}
	}
	return false
}

// action is what the production makes: picks go to where symbols stand now, or become what the replacing alternative makes.
func (t *taken) action(c *counter) api.Act {
	return c.filled(t.alt.Act, func(at int) api.Act {
		p := t.parts[at]
		if p.inner != nil {
			return p.inner.action(c)
		}
		return c.copied(api.Act{Kind: api.ActPick, At: p.at})
	})
}
