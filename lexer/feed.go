package lexer

import (
	"slices"

	"quoin/api"
)

// Lexer is a scanner at work.
type Lexer struct{ run }

// New is a lexer of which nothing was fed.
func New(s api.Scanner) (*Lexer, api.Errno) {
	modes, e := modesOf(s)
	if e != api.OK {
		return nil, e
	}
	return &Lexer{newRun(modes)}, api.OK
}

// isMade tells whether a call made it.
func (l *Lexer) isMade() bool {
	return l != nil && l.scanner != nil
}

// closed is why nothing more may come; the zero fault, if something may.
func (l *Lexer) closed() api.Fault {
	switch {
	case !l.isMade():
		return api.Fault{Why: api.ErrNil}
	case l.fault != (api.Fault{}):
		return l.fault
	case l.ended:
		return api.Fault{Why: api.ErrFull, At: l.came()}
	}
	return api.Fault{}
}

// Feed hands it more: the tokens that are certain.
func (l *Lexer) Feed(parts ...string) ([]api.Tok, api.Fault) {
	if f := l.closed(); f != (api.Fault{}) {
		return nil, f
	}
	if !l.haveRoom(parts...) {
		l.fault = api.Fault{Why: api.ErrLong, At: api.MaxSource}
		return nil, l.fault
	}
	for _, part := range parts {
		l.wait = append(l.wait, part...)
	}
	toks := l.goOver()
	return toks, l.fault
}

// haveRoom tells whether no more bytes come with these than may.
func (l *Lexer) haveRoom(parts ...string) bool {
	left := api.MaxSource - l.came()
	for _, part := range parts {
		if len(part) > left {
			return false
		}
		left -= len(part)
	}
	return true
}

// End lets nothing more come.
func (l *Lexer) End() ([]api.Tok, api.Fault) {
	if f := l.closed(); f != (api.Fault{}) {
		return nil, f
	}
	l.ended = true
	toks := l.goOver()
	return toks, l.fault
}

// At is its place.
func (l *Lexer) At() int {
	if !l.isMade() {
		return 0
	}
	return l.place
}

// Modes are its modes, the last one last.
func (l *Lexer) Modes() []int {
	if !l.isMade() {
		return nil
	}
	return slices.Clone(l.modes)
}

// Wait is what came behind its place.
func (l *Lexer) Wait() string {
	if !l.isMade() {
		return ""
	}
	return string(l.wait)
}

// Fault is its fault.
func (l *Lexer) Fault() api.Fault {
	if !l.isMade() {
		return api.Fault{}
	}
	return l.fault
}

// Clone is another one that stands so.
func (l *Lexer) Clone() *Lexer {
	if !l.isMade() {
		return nil
	}
	c := *l
	c.modes = slices.Clone(l.modes)
	c.wait = slices.Clone(l.wait)
	return &c
}
