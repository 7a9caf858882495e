package spec

import "quoin/api"

// declarations are the ways in which declarations are read, by their first keys.
func declarations() map[string]func(*reader) {
	return map[string]func(*reader){
		"use":    (*reader).use,
		"mode":   (*reader).modeLine,
		"token":  (*reader).tokenLine,
		"skip":   (*reader).skipLine,
		"left":   (*reader).left,
		"right":  (*reader).right,
		"none":   (*reader).none,
		"type":   (*reader).typeLine,
		"open":   (*reader).rule,
		"inline": (*reader).rule,
		"rule":   (*reader).rule,
		"start":  (*reader).start,
	}
}

// module reads a whole module.
func (r *reader) module() {
	r.must("module")
	r.made.Name = r.word()
	r.must(";")
	ways := declarations()
	for r.next.sort != endToken {
		declare := ways[r.next.text]
		if r.next.sort != fixedToken || declare == nil {
			r.giveUp(api.ErrSpec)
		}
		declare(r)
	}
}

func (r *reader) use() {
	r.room(len(r.made.Uses), api.MaxSpecs)
	u := api.Use{At: r.next.at}
	r.must("use")
	u.Module = r.word()
	u.Names = r.names()
	r.must(";")
	r.made.Uses = append(r.made.Uses, u)
}

// names are those that a Use takes; none, if no ( stands there.
func (r *reader) names() []api.Rename {
	var l []api.Rename
	if !r.takes("(") {
		return nil
	}
	for more := true; more; more = r.takes(",") {
		name := r.nextWord(len(l), api.MaxSpecs)
		as := name
		if r.takes("as") {
			as = r.word()
		}
		l = append(l, api.Rename{Name: name, As: as})
	}
	r.must(")")
	return l
}

func (r *reader) modeLine() {
	r.must("mode")
	r.mode = r.word()
	r.must(";")
}

func (r *reader) tokenLine() {
	r.room(len(r.made.Lex), api.MaxSpecs)
	l := api.LexLine{Mode: r.mode, At: r.next.at}
	r.must("token")
	l.Name = r.word()
	r.lexLine(l)
}

func (r *reader) skipLine() {
	r.room(len(r.made.Lex), api.MaxSpecs)
	l := api.LexLine{Mode: r.mode, At: r.next.at}
	r.must("skip")
	r.lexLine(l)
}

// lexLine reads what a Token and a Skip end with.
func (r *reader) lexLine(l api.LexLine) {
	l.Re = r.expression()
	l.Pop = r.takes("pop")
	if r.takes("push") {
		l.Push = r.word()
	}
	r.must(";")
	r.made.Lex = append(r.made.Lex, l)
}

func (r *reader) left()  { r.level(api.AssocLeft) }
func (r *reader) right() { r.level(api.AssocRight) }
func (r *reader) none()  { r.level(api.AssocNot) }

// level reads a Level, whose key is the next token.
func (r *reader) level(assoc int) {
	r.room(len(r.made.Precs), api.MaxSpecs)
	l := api.PrecLine{Assoc: assoc, At: r.take(fixedToken).at}
	l.Names = r.words(0, api.MaxSpecs)
	r.made.Precs = append(r.made.Precs, l)
}

func (r *reader) typeLine() {
	r.room(len(r.made.Datas), api.MaxSpecs)
	l := api.DataLine{At: r.next.at}
	r.must("type")
	l.Data.Name = r.word()
	r.must("=")
	for more := true; more; more = r.takes("|") {
		name := r.nextWord(len(l.Data.Ctors), api.MaxSpecs)
		l.Data.Ctors = append(l.Data.Ctors, api.Ctor{Name: name, Fields: r.wordsIn(api.MaxFields)})
	}
	r.must(";")
	r.made.Datas = append(r.made.Datas, l)
}

func (r *reader) start() {
	r.must("start")
	l := r.words(len(r.made.Starts), api.MaxSpecs)
	r.made.Starts = append(r.made.Starts, l...)
}
