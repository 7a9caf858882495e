package token

import "quoin/api"

// Check tells whether a row may be; else the first token that is wrong.
func Check(names []string, src string, l []api.Tok) (int, api.Errno) {
	if e := Kinds(names...); e != api.OK {
		return 0, e
	}
	if len(l) > api.MaxToks {
		return api.MaxToks, api.ErrRow
	}
	r := ground{names: names, src: src}
	for i, t := range l {
		if !r.take(t) {
			return i, api.ErrRow
		}
	}
	return 0, api.OK
}

// ground is what a row stands over: kinds and a text, and how far the tokens that were taken reach.
type ground struct {
	names   []string
	src     string
	reached int
}

// take tells whether a token may stand behind those that were taken; then it is taken, too.
func (g *ground) take(t api.Tok) bool {
	if t.Kind <= api.KindError || t.Kind >= len(g.names) {
		return false
	}
	if t.From < g.reached || t.To < t.From || t.To > len(g.src) {
		return false
	}
	g.reached = t.To
	return true
}
