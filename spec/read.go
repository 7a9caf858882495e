package spec

import (
	"quoin/api"
	"quoin/regex"
)

// reader reads a module. A wrong token makes it give up: it panics with the fault.
type reader struct {
	text string
	next token // the first one that was not taken
	open int   // how many ( of symbols, or of an action, are open
	mode string
	made api.Spec
}

// Parse is a module's tree, or the first token that is wrong.
func Parse(text string) (api.Spec, api.Fault) {
	if len(text) > api.MaxSource {
		return api.Spec{}, api.Fault{Why: api.ErrLong}
	}
	r := &reader{text: text, mode: mainMode}
	if f := r.all(); f != (api.Fault{}) {
		return api.Spec{}, f
	}
	return r.made, api.Fault{}
}

// all reads the whole text; where the reader gives up, its fault is told.
func (r *reader) all() (f api.Fault) {
	defer func() {
		if why := recover(); why != nil {
			f = why.(api.Fault) // nothing else panics
		}
	}()
	r.goOn(0)
	r.module()
	return api.Fault{}
}

// giveUp ends the reading at the next token.
func (r *reader) giveUp(why api.Errno) {
	panic(api.Fault{Why: why, At: r.next.at})
}

// goOn finds the next token, from a byte on.
func (r *reader) goOn(at int) {
	at = behindGaps(r.text, at)
	t, e := tokenAt(r.text, at)
	if e != api.OK {
		panic(api.Fault{Why: e, At: at})
	}
	r.next = t
}

// take is the next token, which must be of a sort.
func (r *reader) take(sort int) token {
	t := r.next
	if t.sort != sort {
		r.giveUp(api.ErrSpec)
	}
	r.goOn(t.end)
	return t
}

// sees tells whether the next token is a certain key or sign.
func (r *reader) sees(fixed string) bool {
	return r.next.sort == fixedToken && r.next.text == fixed
}

// takes goes on behind a key or sign, if it is the next token.
func (r *reader) takes(fixed string) bool {
	if !r.sees(fixed) {
		return false
	}
	r.goOn(r.next.end)
	return true
}

// must goes on behind a key or sign; nothing else may stand there.
func (r *reader) must(fixed string) {
	if !r.takes(fixed) {
		r.giveUp(api.ErrSpec)
	}
}

// room gives up, if there are as many as may be ahead of what the next token begins.
func (r *reader) room(many, most int) {
	if many >= most {
		r.giveUp(api.ErrItems)
	}
}

// word is a word that is no key.
func (r *reader) word() string {
	return r.take(wordToken).text
}

// nextWord is a word behind so many others of its list.
func (r *reader) nextWord(many, most int) string {
	if r.next.sort == wordToken { // what is no word is wrong ahead of its being one too many
		r.room(many, most)
	}
	return r.word()
}

// wordsIn are words in ( ), with a comma between any two; none, if no ( stands there.
func (r *reader) wordsIn(most int) []string {
	var l []string
	if !r.takes("(") {
		return nil
	}
	for more := true; more; more = r.takes(",") {
		l = append(l, r.nextWord(len(l), most))
	}
	r.must(")")
	return l
}

// words are words, one or more, up to a semicolon, behind so many others of their list.
func (r *reader) words(many, most int) []string {
	var l []string
	for more := true; more; more = !r.sees(";") {
		l = append(l, r.nextWord(many+len(l), most))
	}
	r.must(";")
	return l
}

// enter goes on behind a ( that is open till leave.
func (r *reader) enter() {
	if r.open == api.MaxNest {
		r.giveUp(api.ErrNest)
	}
	r.must("(")
	r.open++
}

// leave goes on behind the ) of the last ( that is open.
func (r *reader) leave() {
	r.must(")")
	r.open--
}

// expression is what stands behind a =, which is not made of tokens.
func (r *reader) expression() api.Regex {
	if !r.sees("=") {
		r.giveUp(api.ErrSpec)
	}
	at := behindGaps(r.text, r.next.end)
	if at == len(r.text) { // From begins at a byte alone, and takes the end for a wrong number
		panic(api.Fault{Why: api.ErrForm, At: at})
	}
	re, end, f := regex.From(r.text, at)
	if f != (api.Fault{}) {
		panic(f)
	}
	r.goOn(end)
	return re
}
