package spec_test

import (
	"reflect"
	"regexp"
	"slices"
	"strconv"
	"strings"
	"testing"

	"quoin/api"
	"quoin/regex"
	"quoin/spec"
	"quoin/text"
)

// The chapter's words by the letter: its grammar is read as it stands there, a text is gone over by it, what comes is a tree of the grammar's names, and from that the module's.

// grammar is the chapter's; Param, Field and Entry are words that have a name because they are counted.
const grammar = `
Spec  = "module" word ";" { Use | Mode | Token | Skip | Level | Type | Rule | Start } .
Use   = "use" word [ "(" Name { "," Name } ")" ] ";" .       Name = word [ "as" word ] .
Mode  = "mode" word ";" .
Token = "token" word "=" expression Go ";" .                 Go = [ "pop" ] [ "push" word ] .
Skip  = "skip" "=" expression Go ";" .
Level = ( "left" | "right" | "none" ) Entry { Entry } ";" .
Type  = "type" word "=" Ctor { "|" Ctor } ";" .              Ctor = word [ "(" Field { "," Field } ")" ] .
Rule  = [ "open" ] [ "inline" ] "rule" word [ "(" Param { "," Param } ")" ] [ ":" word ]
        "=" Alt { "|" Alt } ";" .
Alt   = { Sym } [ "prec" word ] [ "=>" Act ] .               Sym = word [ "(" Sym { "," Sym } ")" ] .
Act   = "$" number | "_" | quoted | word [ "(" Act { "," Act } ")" ] .
Start = "start" Entry { Entry } ";" .
Param = word .  Field = word .  Entry = word .
`

// keys are the chapter's.
var keys = strings.Fields("module use as mode token skip push pop left right none type open inline rule prec start")

var (
	gapForm    = regexp.MustCompile(`^(?:[ \t\n\r]|//[^\n]*)*`)
	wordForm   = regexp.MustCompile(`^[A-Za-z_][A-Za-z0-9_]*`)
	numberForm = regexp.MustCompile(`^[0-9]+`)
	signForm   = regexp.MustCompile(`^(?:=>|[;,()=|:$_])`)
)

// ebnf is an expression of the grammar: one of the kinds cat, alt, opt, many, text, name.
type ebnf struct {
	kind string
	text string
	kids []ebnf
}

// productions are the grammar's.
var productions = readGrammar(grammar)

// readGrammar reads the grammar's text, which is known to be right.
func readGrammar(s string) map[string]ebnf {
	l := regexp.MustCompile(`"[^"]*"|[A-Za-z]+|[][(){}|=.]`).FindAllString(s, -1)
	at := 0
	var alt func() ebnf
	atom := func() ebnf {
		t := l[at]
		at++
		closing := map[string]string{"[": "opt", "{": "many", "(": "group"}
		if kind, is := closing[t]; is {
			x := alt()
			at++
			if kind == "group" {
				return x
			}
			return ebnf{kind: kind, kids: []ebnf{x}}
		}
		if t[0] == '"' {
			return ebnf{kind: "text", text: t[1 : len(t)-1]}
		}
		return ebnf{kind: "name", text: t}
	}
	alt = func() ebnf {
		x := ebnf{kind: "alt"}
		for {
			c := ebnf{kind: "cat"}
			for !strings.Contains("|.])}", l[at]) {
				c.kids = append(c.kids, atom())
			}
			x.kids = append(x.kids, c)
			if l[at] != "|" {
				return x
			}
			at++
		}
	}
	m := map[string]ebnf{}
	for at < len(l) {
		name := l[at]
		at += 2
		m[name] = alt()
		at++
	}
	return m
}

// part is a part of a text: a token (its name is its sort: word, number, quoted, expression, or what it is itself), or what a name of the grammar stands for.
type part struct {
	name    string
	text    string // of a quoted text its value
	at, end int
	re      api.Regex
	kids    []*part
	above   *part
}

// of are the kids of a name.
func (p *part) of(name string) []*part {
	var l []*part
	for _, k := range p.kids {
		if k.name == name {
			l = append(l, k)
		}
	}
	return l
}

// has tells whether a kid has a name.
func (p *part) has(name string) bool { return len(p.of(name)) > 0 }

// words are the texts of kids.
func (p *part) words(name string) []string {
	var l []string
	for _, k := range p.of(name) {
		for len(k.kids) > 0 {
			k = k.kids[0]
		}
		l = append(l, k.text)
	}
	return l
}

// first is a kid's text, or nothing.
func (p *part) first(name string) string {
	if l := p.words(name); len(l) > 0 {
		return l[0]
	}
	return ""
}

// tokens are the tokens of a part, in order.
func (p *part) tokens() []*part {
	if len(p.kids) == 0 && p.end > p.at {
		return []*part{p}
	}
	var l []*part
	for _, k := range p.kids {
		l = append(l, k.tokens()...)
	}
	return l
}

// goer goes over a text by the grammar. It panics with the first fault.
type goer struct {
	text   string
	at     int
	ahead  *part
	counts map[*part]map[string]int
	wrong  []api.Fault // of the token ahead, if it may stand there: what else is wrong with it
}

// gap is the byte behind all blanks and remarks from a byte on.
func gap(s string, at int) int { return at + len(gapForm.FindString(s[at:])) }

// tokenAt is the token at a byte, by the letter, and what is wrong with it.
func tokenAt(s string, at int) (*part, api.Errno) {
	rest := s[at:]
	if rest == "" {
		return &part{name: "the end", at: at, end: at}, api.OK
	}
	if rest[0] == '"' {
		value, end, f := text.Quoted(s, at)
		return &part{name: "quoted", text: value, at: at, end: end}, f.Why
	}
	if word := wordForm.FindString(rest); word != "" && word != "_" {
		p := &part{name: "word", text: word, at: at, end: at + len(word)}
		if slices.Contains(keys, word) {
			p.name = word
		}
		if len(word) > 32 {
			return p, api.ErrWord
		}
		return p, api.OK
	}
	if number := numberForm.FindString(rest); number != "" {
		return &part{name: "number", text: number, at: at, end: at + len(number)}, api.OK
	}
	if sign := signForm.FindString(rest); sign != "" {
		return &part{name: sign, text: sign, at: at, end: at + len(sign)}, api.OK
	}
	return nil, api.ErrForm
}

// peek is the next token.
func (g *goer) peek() *part {
	if g.ahead == nil {
		at := gap(g.text, g.at)
		p, e := tokenAt(g.text, at)
		if e != api.OK {
			panic(api.Fault{Why: e, At: at})
		}
		g.ahead = p
	}
	return g.ahead
}

// begins tells whether an expression can begin with the next token, and whether it can be nothing.
func (g *goer) begins(x ebnf) (begin, empty bool) {
	switch x.kind {
	case "text":
		return g.peek().name == x.text, false
	case "name":
		if p, is := productions[x.text]; is {
			return g.begins(p)
		}
		return g.peek().name == x.text, false
	case "opt", "many":
		begin, _ = g.begins(x.kids[0])
		return begin, true
	case "alt":
		for _, k := range x.kids {
			b, e := g.begins(k)
			begin, empty = begin || b, empty || e
		}
		return begin, empty
	}
	for _, k := range x.kids {
		b, e := g.begins(k)
		if b || !e {
			return b, false
		}
	}
	return false, true
}

// over goes over what an expression stands for; what comes are kids of a part.
func (g *goer) over(x ebnf, p *part) {
	switch x.kind {
	case "text":
		g.token(x.text, p)
	case "name":
		g.name(x.text, p)
	case "opt":
		if b, _ := g.begins(x.kids[0]); b {
			g.over(x.kids[0], p)
		}
	case "many":
		for b, _ := g.begins(x.kids[0]); b; b, _ = g.begins(x.kids[0]) {
			g.over(x.kids[0], p)
		}
	case "cat":
		for _, k := range x.kids {
			g.over(k, p)
		}
	case "alt":
		g.one(x, p)
	}
}

// one goes over the only alternative, or the one that begins with the next token (of several none is nothing here).
func (g *goer) one(x ebnf, p *part) {
	if len(x.kids) == 1 {
		g.over(x.kids[0], p)
		return
	}
	for _, k := range x.kids {
		if b, _ := g.begins(k); b {
			g.over(k, p)
			return
		}
	}
	panic(api.Fault{Why: api.ErrSpec, At: g.peek().at})
}

// name goes over what a name stands for.
func (g *goer) name(name string, p *part) {
	x, is := productions[name]
	if name == "expression" {
		g.expression(p)
		return
	}
	if !is {
		g.token(name, p)
		return
	}
	k := &part{name: name, above: p, at: g.peek().at}
	p.kids = append(p.kids, k)
	g.count(k)
	g.over(x, k)
}

// expression goes over what layer 4 reads.
func (g *goer) expression(p *part) {
	at := gap(g.text, g.at)
	if at == len(g.text) {
		panic(api.Fault{Why: api.ErrForm, At: at}) // R6: at a byte that can't stand there, the end too
	}
	re, end, f := regex.From(g.text, at)
	if f != (api.Fault{}) {
		panic(f)
	}
	p.kids = append(p.kids, &part{name: "expression", re: re, at: at, end: end, above: p})
	g.at, g.ahead = end, nil
}

// token goes over a token of a sort.
func (g *goer) token(sort string, p *part) {
	t := g.peek()
	if t.name != sort {
		panic(api.Fault{Why: api.ErrSpec, At: t.at})
	}
	t.above = p
	g.look(t)
	for _, why := range []api.Errno{api.ErrArg, api.ErrNest, api.ErrItems} {
		if f := (api.Fault{Why: why, At: t.at}); slices.Contains(g.wrong, f) {
			panic(f)
		}
	}
	p.kids = append(p.kids, t)
	g.at, g.ahead = t.end, nil
}

// look notes what is wrong with a token by itself.
func (g *goer) look(t *part) {
	levels, alt := 0, (*part)(nil)
	for p := t.above; p != nil; p = p.above {
		if p.name == "Sym" || p.name == "Act" {
			levels++
		}
		if p.name == "Alt" {
			alt = p
		}
	}
	if t.name == "(" && (t.above.name == "Sym" || t.above.name == "Act") && levels > 64 {
		g.wrong = append(g.wrong, api.Fault{Why: api.ErrNest, At: t.at})
	}
	if t.name == "number" {
		n, e := strconv.Atoi(t.text)
		if e != nil || n == 0 || t.text[0] == '0' || n > len(alt.of("Sym")) {
			g.wrong = append(g.wrong, api.Fault{Why: api.ErrArg, At: t.at})
		}
	}
}

// most is how many parts of a name another one has.
func most(name, above string) int {
	switch above + " " + name {
	case "Alt Sym":
		return 32
	case "Rule Param", "Sym Sym":
		return 4
	case "Ctor Field", "Act Act":
		return 16
	case "Alt Act", "Spec Mode", "Spec Start", "Token Go", "Skip Go":
		return 1 << 30
	}
	return 256
}

// count notes whether a part that begins is one too many.
func (g *goer) count(p *part) {
	if p.above == nil {
		return
	}
	name, within := p.name, p.above
	if name == "Skip" { // both are LexLines
		name = "Token"
	}
	if within.name == "Start" { // all words of all Starts are one list
		within = within.above
	}
	if g.counts[within] == nil {
		g.counts[within] = map[string]int{}
	}
	g.counts[within][name]++
	if g.counts[within][name] > most(name, p.above.name) {
		g.wrong = append(g.wrong, api.Fault{Why: api.ErrItems, At: p.at})
	}
}

// whole is the part that a whole text is, or the first fault.
func whole(s string) (p *part, f api.Fault) {
	if len(s) > 1<<18 {
		return nil, api.Fault{Why: api.ErrLong}
	}
	defer func() {
		if why := recover(); why != nil {
			p, f = nil, why.(api.Fault)
		}
	}()
	g := &goer{text: s, counts: map[*part]map[string]int{}}
	p = &part{name: "Spec"}
	g.over(productions["Spec"], p)
	if t := g.peek(); t.name != "the end" {
		panic(api.Fault{Why: api.ErrSpec, At: t.at})
	}
	return p, api.Fault{}
}

// read is a text's tree by the letter, or the first fault.
func read(s string) (api.Spec, api.Fault) {
	p, f := whole(s)
	if f != (api.Fault{}) {
		return api.Spec{}, f
	}
	made, mode := api.Spec{Name: p.first("word")}, "main"
	for _, k := range p.kids {
		switch k.name {
		case "Use":
			u := api.Use{Module: k.first("word"), At: k.at}
			for _, n := range k.of("Name") {
				l := n.words("word")
				u.Names = append(u.Names, api.Rename{Name: l[0], As: l[len(l)-1]})
			}
			made.Uses = append(made.Uses, u)
		case "Mode":
			mode = k.first("word")
		case "Token", "Skip":
			goes := k.of("Go")[0]
			l := api.LexLine{Mode: mode, Name: k.first("word"), Re: k.of("expression")[0].re, Push: goes.first("word"), Pop: goes.has("pop"), At: k.at}
			made.Lex = append(made.Lex, l)
		case "Level":
			assoc := map[string]int{"left": api.AssocLeft, "right": api.AssocRight, "none": api.AssocNot}[k.kids[0].name]
			made.Precs = append(made.Precs, api.PrecLine{Assoc: assoc, Names: k.words("Entry"), At: k.at})
		case "Type":
			d := api.DataLine{Data: api.Data{Name: k.first("word")}, At: k.at}
			for _, c := range k.of("Ctor") {
				d.Data.Ctors = append(d.Data.Ctors, api.Ctor{Name: c.first("word"), Fields: c.words("Field")})
			}
			made.Datas = append(made.Datas, d)
		case "Rule":
			made.Rules = append(made.Rules, readRule(k))
		case "Start":
			made.Starts = append(made.Starts, k.words("Entry")...)
		}
	}
	return made, api.Fault{}
}

func readRule(p *part) api.RuleLine {
	l := p.of("word")
	r := api.RuleLine{Name: l[0].text, Open: p.has("open"), Inline: p.has("inline"), Params: p.words("Param"), At: l[0].at}
	if p.has(":") {
		r.Type = l[1].text
	}
	for _, k := range p.of("Alt") {
		a := api.Alt{Prec: k.first("word"), At: k.at}
		for _, s := range k.of("Sym") {
			a.Syms = append(a.Syms, readSym(s))
		}
		if len(a.Syms) == 1 {
			a.Act = api.Act{Kind: api.ActPick, At: 0}
		}
		for _, x := range k.of("Act") {
			a.Act = readAct(x)
		}
		r.Alts = append(r.Alts, a)
	}
	return r
}

func readSym(p *part) api.Ref {
	r := api.Ref{Name: p.first("word"), At: p.at}
	for _, k := range p.of("Sym") {
		r.Args = append(r.Args, readSym(k))
	}
	return r
}

func readAct(p *part) api.Act {
	switch p.kids[0].name {
	case "$":
		n, _ := strconv.Atoi(p.first("number"))
		return api.Act{Kind: api.ActPick, At: n - 1}
	case "_":
		return api.Act{Kind: api.ActNone}
	case "quoted":
		return api.Act{Kind: api.ActText, Name: p.first("quoted")}
	}
	a := api.Act{Kind: api.ActNode, Name: p.first("word")}
	for _, k := range p.of("Act") {
		a.Kids = append(a.Kids, readAct(k))
	}
	return a
}

// told is a tree as a text in which all of it stands, with its places or without; lists that are empty are one.
func told(v any, places bool) string {
	var b strings.Builder
	tell(&b, reflect.ValueOf(v), places)
	return b.String()
}

func tell(b *strings.Builder, v reflect.Value, places bool) {
	switch v.Kind() {
	case reflect.Struct:
		b.WriteString(v.Type().Name() + "{")
		for i := range v.NumField() {
			if !places && isPlace(v.Type(), i) {
				continue
			}
			b.WriteString(v.Type().Field(i).Name + ":")
			tell(b, v.Field(i), places)
			b.WriteString(" ")
		}
		b.WriteString("}")
	case reflect.Slice:
		b.WriteString("[")
		for i := range v.Len() {
			tell(b, v.Index(i), places)
			b.WriteString(",")
		}
		b.WriteString("]")
	case reflect.String:
		b.WriteString(strconv.Quote(v.String()))
	case reflect.Bool:
		b.WriteString(strconv.FormatBool(v.Bool()))
	default:
		b.WriteString(strconv.FormatInt(v.Int(), 10))
	}
}

// isPlace tells whether a field is a place; an action's At is a symbol's number.
func isPlace(t reflect.Type, field int) bool {
	return t.Field(field).Name == "At" && t != reflect.TypeFor[api.Act]()
}

// parsed is the tree of a text that must have one.
func parsed(t testing.TB, s string) api.Spec {
	t.Helper()
	made, f := spec.Parse(s)
	if f != (api.Fault{}) {
		t.Fatalf("%q: %v", s, f)
	}
	return made
}

// refused holds a text's fault against one that is told.
func refused(t testing.TB, s string, why api.Errno, at int) {
	t.Helper()
	made, f := spec.Parse(s)
	if f != (api.Fault{Why: why, At: at}) {
		t.Errorf("%s: %v, want {%v %d}", brief(s), f, why, at)
	}
	if told(made, true) != told(api.Spec{}, true) {
		t.Errorf("%s: a tree beside a fault", brief(s))
	}
}

// likeWords holds what is told of a text against the words, and tells whether it is a module.
func likeWords(t testing.TB, s string) bool {
	t.Helper()
	made, f := spec.Parse(s)
	want, fault := read(s)
	if f != fault {
		t.Fatalf("%s: %v, want %v", brief(s), f, fault)
	}
	if got, wanted := told(made, true), told(want, true); got != wanted {
		t.Fatalf("%s:\n%s\nwant\n%s", brief(s), got, wanted)
	}
	if f == (api.Fault{}) && !spec.Right(made) {
		t.Fatalf("%s: not right", brief(s))
	}
	return f == (api.Fault{})
}

// brief is a text that a message can bear.
func brief(s string) string {
	if len(s) > 400 {
		return strconv.Quote(s[:200]) + " .. " + strconv.Quote(s[len(s)-100:])
	}
	return strconv.Quote(s)
}
