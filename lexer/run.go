package lexer

import (
	"unicode/utf8"

	"quoin/api"
	"quoin/text"
)

// run is a run over what came of a text.
type run struct {
	scanner []mode
	place   int
	modes   []int  // the modes within one another, from 1 on
	wait    []byte // what came behind the place
	ended   bool   // whether nothing more comes
	told    int    // how many tokens there are
	fault   api.Fault
	going
}

// going is how far one went on from the place.
type going struct {
	state int
	size  int // in bytes
	match int // the bytes of the longest match so far; 0, if there is none
	rule  int // its rule
}

// newRun is a run that has not begun.
func newRun(scanner []mode) run {
	return run{scanner: scanner, modes: []int{1}}
}

// came is how many bytes came.
func (r *run) came() int {
	return r.place + len(r.wait)
}

// mode is the last mode.
func (r *run) mode() *mode {
	return &r.scanner[r.modes[len(r.modes)-1]-1]
}

// goOver goes over what came as far as it is certain: the tokens.
func (r *run) goOver() []api.Tok {
	var toks []api.Tok
	met := stops{}
	for len(r.wait) > 0 && r.fault == (api.Fault{}) && r.goOn(met) {
		toks = r.end(toks)
	}
	return toks
}

// goOn goes on from where it stood: whether it is certain what the match is, or that there is none.
func (r *run) goOn(met stops) bool {
	m := r.mode()
	for !m.last[r.state] {
		if !r.ended && !utf8.FullRune(r.wait[r.size:]) {
			return false
		}
		c, size, isRune := r.piece(r.size)
		if !isRune {
			return true
		}
		to := m.step(r.state, c)
		if to < 0 {
			return true
		}
		r.state = to
		r.size += size
		if rule := m.auto.Rule[to]; rule >= 0 {
			r.match, r.rule = r.size, rule
		} else if r.atStop(size) && met.again(stop{r.place + r.size, r.modes[len(r.modes)-1], to}) {
			return true
		}
	}
	return true
}

// piece is the one that begins so many bytes behind the place.
func (r *run) piece(behind int) (c rune, size int, isRune bool) {
	most := min(len(r.wait), behind+utf8.UTFMax)
	return text.Next(string(r.wait[behind:most]), 0)
}

// end is the end of going on: the modes turn, the match's token is told, and the place is its end; or there is a fault.
func (r *run) end(toks []api.Tok) []api.Tok {
	if r.match == 0 {
		return r.fail(toks, r.whyNone())
	}
	rule := r.mode().rules[r.rule]
	if e := r.turn(rule); e != api.OK {
		return r.fail(toks, e)
	}
	to := r.place + r.match
	if rule.Kind != 0 {
		if r.told == api.MaxToks {
			return r.fail(toks, api.ErrLong)
		}
		r.told++
		toks = append(toks, api.Tok{Kind: rule.Kind, From: r.place, To: to})
	}
	r.wait = r.wait[r.match:]
	r.place = to
	r.going = going{}
	return toks
}

// fail ends the run at its place.
func (r *run) fail(toks []api.Tok, why api.Errno) []api.Tok {
	r.fault = api.Fault{Why: why, At: r.place}
	return toks
}

// whyNone is why there is no match at the place.
func (r *run) whyNone() api.Errno {
	if _, _, isRune := r.piece(0); !isRune {
		return api.ErrUtf8
	}
	return api.ErrLex
}

// turn lets a mode go, and one come, as a rule says.
func (r *run) turn(rule api.LexRule) api.Errno {
	if rule.Pop {
		if len(r.modes) == 1 {
			return api.ErrMode
		}
		r.modes = r.modes[:len(r.modes)-1]
	}
	if rule.Push != 0 {
		if len(r.modes) == api.MaxStack {
			return api.ErrModes
		}
		r.modes = append(r.modes, rule.Push)
	}
	return api.OK
}
