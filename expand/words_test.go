package expand_test

import (
	"reflect"
	"slices"
	"strconv"
	"strings"
	"testing"

	"quoin/api"
	"quoin/expand"
	"quoin/spec"
)

// The chapter's words by the letter: instances are terms that are held against each other by their texts, each choice is gone through anew from its first symbol on, and actions are made over at each symbol that is replaced.

// wordKinds are a module's kinds.
func wordKinds(s api.Spec) []string {
	l := []string{"end", "error"}
	for _, line := range s.Lex {
		if line.Name != "" && !slices.Contains(l, line.Name) {
			l = append(l, line.Name)
		}
	}
	return l
}

// wordLevel is a name's level and Assoc; of one that has none the zero one.
func wordLevel(s api.Spec, name string) api.Prec {
	for i, line := range s.Precs {
		if slices.Contains(line.Names, name) {
			return api.Prec{Level: i + 1, Assoc: line.Assoc}
		}
	}
	return api.Prec{}
}

// wordRule is the first rule of a name; nil, if there is none.
func wordRule(s api.Spec, name string) *api.RuleLine {
	for _, r := range s.Rules {
		if r.Name == name {
			return &r
		}
	}
	return nil
}

// wordWrong is what is wrong with a module.
func wordWrong(s api.Spec, start string) []api.Diag {
	if !spec.Right(s) {
		return []api.Diag{{Module: s.Name, Why: api.ErrArg}}
	}
	return slices.Concat(wrong1(s), wrong2(s), wrong3(s), wrong4(s, start))
}

func wrong1(s api.Spec) []api.Diag {
	var wrong []api.Diag
	for i, r := range s.Rules {
		there := api.Diag{Module: s.Name, Why: api.ErrThere, At: r.At}
		isThere := slices.Contains(wordKinds(s), r.Name)
		for _, ahead := range s.Rules[:i] {
			isThere = isThere || ahead.Name == r.Name
		}
		if isThere {
			wrong = append(wrong, there)
		}
		isThere = false
		for j, p := range r.Params {
			for k, q := range r.Params {
				isThere = isThere || j != k && p == q
			}
			isThere = isThere || slices.Contains(wordKinds(s), p) || wordRule(s, p) != nil
		}
		if isThere {
			wrong = append(wrong, there)
		}
	}
	return wrong
}

func wrong2(s api.Spec) []api.Diag {
	var wrong []api.Diag
	for _, r := range s.Rules {
		var look func(x api.Ref)
		look = func(x api.Ref) {
			takes := 0
			switch rule := wordRule(s, x.Name); {
			case slices.Contains(r.Params, x.Name):
			case slices.Contains(wordKinds(s), x.Name) && x.Name != "end":
			case rule != nil:
				takes = len(rule.Params)
			default:
				wrong = append(wrong, api.Diag{Module: s.Name, Why: api.ErrUnknown, At: x.At})
				takes = len(x.Args)
			}
			if takes != len(x.Args) {
				wrong = append(wrong, api.Diag{Module: s.Name, Why: api.ErrSort, At: x.At})
			}
			for _, y := range x.Args {
				look(y)
			}
		}
		for _, a := range r.Alts {
			for _, x := range a.Syms {
				look(x)
			}
		}
	}
	return wrong
}

func wrong3(s api.Spec) []api.Diag {
	var wrong []api.Diag
	for _, r := range s.Rules {
		for _, a := range r.Alts {
			if a.Prec != "" && wordLevel(s, a.Prec).Level == 0 {
				wrong = append(wrong, api.Diag{Module: s.Name, Why: api.ErrUnknown, At: a.At})
			}
		}
	}
	return wrong
}

func wrong4(s api.Spec, start string) []api.Diag {
	r := wordRule(s, start)
	switch {
	case r == nil:
		return []api.Diag{{Module: s.Name, Why: api.ErrNone}}
	case len(r.Params) > 0 || r.Inline:
		return []api.Diag{{Module: s.Name, Why: api.ErrSort, At: r.At}}
	}
	return nil
}

// term is a kind, or an instance.
type term struct {
	rule *api.RuleLine // nil of a kind
	kind string
	args []term
}

func (x term) text() string {
	if x.rule == nil {
		return x.kind
	}
	var l []string
	for _, y := range x.args {
		l = append(l, y.text())
	}
	if len(l) == 0 {
		return x.rule.Name
	}
	return x.rule.Name + "(" + strings.Join(l, ", ") + ")"
}

func (x term) height() int {
	if x.rule == nil {
		return 0
	}
	height := 0
	for _, y := range x.args {
		height = max(height, y.height())
	}
	return height + 1
}

// with is a symbol of an instance's alternative, with what stands for the parameters put in.
func (x term) with(s api.Spec, r api.Ref) term {
	if i := slices.Index(x.rule.Params, r.Name); i >= 0 {
		return x.args[i]
	}
	rule := wordRule(s, r.Name)
	if rule == nil {
		return term{kind: r.Name}
	}
	made := term{rule: rule}
	for _, y := range r.Args {
		made.args = append(made.args, x.with(s, y))
	}
	return made
}

// wordItem is a symbol on the way through a choice: its mark is what picks have as their At till all symbols stand, within the texts of the instances for which it stands.
type wordItem struct {
	term   term
	mark   int
	within []string
}

// wordChoice is one choice of an instance's alternative.
type wordChoice struct {
	s       api.Spec
	items   []wordItem
	act     api.Act
	isLarge bool // the action has too many parts already: it is made over no more
	marks   int
	taken   []int // which alternatives it takes at inlined symbols, in the order in which they are met
	of      []int // of how many
}

// put puts an alternative's symbols in the place of an item, and its action in the place of that one's picks.
func (c *wordChoice) put(place int, x term, a api.Alt, mark int, within []string) {
	var l []wordItem
	first := c.marks
	for _, r := range a.Syms {
		l = append(l, wordItem{x.with(c.s, r), c.marks, within})
		c.marks++
	}
	var moved func(b api.Act) api.Act
	moved = func(b api.Act) api.Act {
		if b.Kind == api.ActPick {
			return api.Act{Kind: api.ActPick, At: first + b.At}
		}
		return over(b, moved)
	}
	var put func(b api.Act) api.Act
	put = func(b api.Act) api.Act {
		if b.Kind != api.ActPick {
			return over(b, put)
		}
		if b.At != mark {
			return b
		}
		return moved(a.Act)
	}
	if !c.isLarge {
		c.act = put(c.act)
		c.isLarge = wordParts(c.act) > 256 // a pick is one part, and becomes one or more: it stays so
	}
	c.items = slices.Concat(c.items[:place], l, c.items[place+1:])
}

// over is an action with other kids.
func over(a api.Act, turn func(api.Act) api.Act) api.Act {
	var kids []api.Act
	for _, k := range a.Kids {
		kids = append(kids, turn(k))
	}
	a.Kids = kids
	return a
}

// wordParts are how many parts an action has.
func wordParts(a api.Act) int {
	parts := 1
	for _, k := range a.Kids {
		parts += wordParts(k)
	}
	return parts
}

// walk goes through the choice's symbols from the left; or it tells why it can not.
func (c *wordChoice) walk(x term, a api.Alt) api.Errno {
	c.items = []wordItem{{mark: 0}}
	c.act = api.Act{Kind: api.ActPick}
	c.marks = 1
	c.put(0, x, a, 0, nil)
	inlined := 0
	for at := 0; at < len(c.items); {
		i := c.items[at]
		if i.term.height() > 8 {
			return api.ErrEndless
		}
		if i.term.rule == nil || !i.term.rule.Inline {
			if at == 64 {
				return api.ErrProds
			}
			at++
			continue
		}
		text := i.term.text()
		if slices.Contains(i.within, text) {
			return api.ErrInline
		}
		if inlined == 256 {
			return api.ErrProds
		}
		if inlined == len(c.taken) {
			c.taken = append(c.taken, 0)
		}
		c.of = append(c.of, len(i.term.rule.Alts))
		c.put(at, i.term, i.term.rule.Alts[c.taken[inlined]], i.mark, append(slices.Clone(i.within), text))
		inlined++
	}
	if c.isLarge {
		return api.ErrAction
	}
	var stand func(b api.Act) api.Act
	stand = func(b api.Act) api.Act {
		if b.Kind == api.ActPick {
			b.At = slices.IndexFunc(c.items, func(i wordItem) bool { return i.mark == b.At })
			return b
		}
		return over(b, stand)
	}
	c.act = stand(c.act)
	return api.OK
}

// next is the next choice behind this one; nil, if it is the last.
func (c *wordChoice) next() *wordChoice {
	for i := len(c.of) - 1; i >= 0; i-- {
		if c.taken[i]+1 < c.of[i] {
			return &wordChoice{s: c.s, taken: append(slices.Clone(c.taken[:i]), c.taken[i]+1)}
		}
	}
	return nil
}

// wordGrammar is a plain grammar on the way.
type wordGrammar struct {
	s     api.Spec
	plain api.Plain
	types []string
	terms []term
	place map[string]int // of a rule's text
}

func (g *wordGrammar) add(x term) api.Errno {
	text := x.text()
	if _, is := g.place[text]; is || x.rule == nil {
		return api.OK
	}
	if len(g.terms) == 2048 || len(text) > 4096 {
		return api.ErrProds
	}
	g.place[text] = len(g.terms)
	g.terms = append(g.terms, x)
	g.plain.Rules = append(g.plain.Rules, text)
	g.types = append(g.types, x.rule.Type)
	return api.OK
}

// end adds the production of a choice.
func (g *wordGrammar) end(c *wordChoice, left int, prec string) api.Errno {
	if len(g.plain.Prods) == 4096 {
		return api.ErrProds
	}
	p := api.Prod{Left: left, Act: c.act}
	for _, i := range c.items {
		if e := g.add(i.term); e != api.OK {
			return e
		}
		if i.term.rule == nil {
			kind := slices.Index(g.plain.Kinds, i.term.kind)
			p.Right = append(p.Right, kind)
			if level := g.plain.Precs[kind].Level; level > 0 {
				p.Level = level
			}
		} else {
			p.Right = append(p.Right, len(g.plain.Kinds)+g.place[i.term.text()])
		}
	}
	if prec != "" {
		p.Level = wordLevel(g.s, prec).Level
	}
	g.plain.Prods = append(g.plain.Prods, p)
	return api.OK
}

// wordPlain is the plain grammar, its rules' types, or what is wrong.
func wordPlain(s api.Spec, start string) (api.Plain, []string, []api.Diag) {
	if wrong := wordWrong(s, start); len(wrong) > 0 {
		return api.Plain{}, nil, wrong
	}
	g := &wordGrammar{s: s, place: map[string]int{}}
	g.plain.Kinds = wordKinds(s)
	for i, kind := range g.plain.Kinds {
		g.plain.Precs = append(g.plain.Precs, api.Prec{})
		if i > 1 {
			g.plain.Precs[i] = wordLevel(s, kind)
		}
	}
	g.add(term{rule: wordRule(s, start)})
	for left := 0; left < len(g.terms); left++ {
		x := g.terms[left]
		for _, a := range x.rule.Alts {
			for c := (&wordChoice{s: s}); c != nil; c = c.next() {
				e := c.walk(x, a)
				if e == api.OK {
					e = g.end(c, left, a.Prec)
				}
				if e != api.OK {
					return api.Plain{}, nil, []api.Diag{{Module: s.Name, Why: e, At: a.At}}
				}
			}
		}
	}
	return g.plain, g.types, nil
}

// wordAct is an action whose picks are replaced, or why there is none.
func wordAct(a api.Act, kids []api.Act) (api.Act, api.Errno) {
	isWrong := false
	var look func(b api.Act)
	look = func(b api.Act) {
		isWrong = isWrong || b.Kind < 0 || b.Kind > 3 || b.Kind == 1 && (b.At < 0 || b.At >= len(kids))
		for _, k := range b.Kids {
			look(k)
		}
	}
	if look(a); isWrong {
		return api.Act{}, api.ErrArg
	}
	var put func(b api.Act) api.Act
	put = func(b api.Act) api.Act {
		if b.Kind == 1 {
			return kids[b.At]
		}
		return over(b, put)
	}
	made := put(a)
	if wordParts(made) > 256 {
		return api.Act{}, api.ErrAction
	}
	return made, api.OK
}

// told is a value as a text in which all of it stands; lists that are empty are one.
func told(v any) string {
	var b strings.Builder
	tell(&b, reflect.ValueOf(v))
	return b.String()
}

func tell(b *strings.Builder, v reflect.Value) {
	switch v.Kind() {
	case reflect.Struct:
		b.WriteString("{")
		for i := range v.NumField() {
			b.WriteString(v.Type().Field(i).Name + ":")
			tell(b, v.Field(i))
			b.WriteString(" ")
		}
		b.WriteString("}")
	case reflect.Slice:
		b.WriteString("[")
		for i := range v.Len() {
			tell(b, v.Index(i))
			b.WriteString(",")
		}
		b.WriteString("]")
	case reflect.String:
		b.WriteString(strconv.Quote(v.String()))
	case reflect.Bool:
		b.WriteString(strconv.FormatBool(v.Bool()))
	default:
		b.WriteString(strconv.FormatInt(v.Int(), 10))
	}
}

// likeWords holds all calls on a module against the words, and tells what Grammar does.
func likeWords(t testing.TB, s api.Spec, start string) (api.Plain, []string, []api.Diag) {
	t.Helper()
	if got, want := expand.Check(s, start), wordWrong(s, start); !slices.Equal(got, want) {
		t.Fatalf("Check: %v, want %v\n%s", got, want, textOf(s))
	}
	if got, want := expand.Kinds(s), wordKinds(s); !slices.Equal(got, want) {
		t.Fatalf("Kinds: %q, want %q\n%s", got, want, textOf(s))
	}
	want, wantTypes, wrong := wordPlain(s, start)
	g, types, diags := expand.Grammar(s, start)
	if told(g) != told(want) || !slices.Equal(types, wantTypes) || !slices.Equal(diags, wrong) {
		t.Fatalf("Grammar:\n%s%q %v\nwant\n%s%q %v\n%s", short(strings.Join(lines(g), "\n")), types, diags, short(strings.Join(lines(want), "\n")), wantTypes, wrong, textOf(s))
	}
	return g, types, diags
}
