package spec_test

import (
	"math/rand"
	"reflect"
	"strconv"
	"strings"

	"quoin/api"
	"quoin/regex"
	"quoin/spec"
	"quoin/text"
)

// Trees at random, trees as texts, and trees part by part.

// write is a text that has a tree, if any has it: all that can be written stands in it as it is in the tree.
func write(s api.Spec) (string, bool) {
	ok := true
	var b strings.Builder
	put := func(l ...string) {
		for _, x := range l {
			b.WriteString(x + " ")
		}
	}
	list := func(l []string) {
		if len(l) > 0 {
			put("(", strings.Join(l, " , "), ")")
		}
	}
	put("module", s.Name, ";")
	for _, u := range s.Uses {
		var l []string
		for _, n := range u.Names {
			l = append(l, n.Name+" as "+n.As)
		}
		put("use", u.Module)
		list(l)
		put(";")
	}
	for _, l := range s.Lex {
		re, e := regex.Text(l.Re)
		ok = ok && e == api.OK
		put("mode", l.Mode, ";")
		if l.Name == "" {
			put("skip =", re)
		} else {
			put("token", l.Name, "=", re)
		}
		if l.Pop {
			put("pop")
		}
		if l.Push != "" {
			put("push", l.Push)
		}
		put(";")
	}
	for _, l := range s.Precs {
		put(map[int]string{api.AssocLeft: "left", api.AssocRight: "right", api.AssocNot: "none"}[l.Assoc])
		put(l.Names...)
		put(";")
	}
	for _, d := range s.Datas {
		for i, c := range d.Data.Ctors {
			put(map[bool]string{true: "type " + d.Data.Name + " =", false: "|"}[i == 0], c.Name)
			list(c.Fields)
		}
		ok = ok && len(d.Data.Ctors) > 0
		put(";")
	}
	for _, r := range s.Rules {
		put(map[bool]string{true: "open"}[r.Open], map[bool]string{true: "inline"}[r.Inline], "rule", r.Name)
		list(r.Params)
		if r.Type != "" {
			put(":", r.Type)
		}
		put("=")
		for i, a := range r.Alts {
			if i > 0 {
				put("|")
			}
			for _, x := range a.Syms {
				put(writeRef(x))
			}
			if a.Prec != "" {
				put("prec", a.Prec)
			}
			put("=>", writeAct(a.Act))
		}
		ok = ok && len(r.Alts) > 0
		put(";")
	}
	for _, x := range s.Starts {
		put("start", x, ";")
	}
	return b.String(), ok
}

func writeRef(r api.Ref) string {
	var l []string
	for _, x := range r.Args {
		l = append(l, writeRef(x))
	}
	if len(l) > 0 {
		return r.Name + "(" + strings.Join(l, ",") + ")"
	}
	return r.Name
}

func writeAct(a api.Act) string {
	var l []string
	for _, x := range a.Kids {
		l = append(l, writeAct(x))
	}
	s := "_"
	switch a.Kind {
	case api.ActPick:
		s = "$" + strconv.Itoa(a.At+1)
	case api.ActText:
		s, _ = text.Quote(a.Name)
	case api.ActNode:
		s = a.Name
	}
	if len(l) > 0 {
		return s + "(" + strings.Join(l, ",") + ")"
	}
	return s
}

// mayBe tells whether a tree is some text's, by writing it: then that text has it.
func mayBe(s api.Spec) bool {
	src, ok := write(s)
	if !ok {
		return false
	}
	made, f := read(src)
	return f == (api.Fault{}) && told(made, false) == told(s, false)
}

// maker makes trees at random.
type maker struct{ *rand.Rand }

var makerWords = []string{"a", "b", "error", "text", "main", "_1", "X9", strings.Repeat("w", 32)}

func (m maker) word() string { return makerWords[m.Intn(len(makerWords))] }

// maybe is a word, or none.
func (m maker) maybe() string {
	if m.Intn(2) == 0 {
		return ""
	}
	return m.word()
}

func (m maker) bool() bool { return m.Intn(2) == 0 }

func (m maker) wordList(least, most int) []string { return listOf(m, least, most, m.word) }

// listOf are so many at random.
func listOf[T any](m maker, least, most int, one func() T) []T {
	var l []T
	for range least + m.Intn(most-least+1) {
		l = append(l, one())
	}
	return l
}

func (m maker) regex() api.Regex {
	l := []string{`"a"`, `[a-c x]`, `[]`, `""`, `.`, `!"ab" & .*`, `("a" | "bc")* [x]`, `"a"{2,3}`}
	r, _ := regex.Parse(l[m.Intn(len(l))])
	return r
}

func (m maker) place() int { return m.Intn(9) - 1 }

func (m maker) ref(levels int) api.Ref {
	r := api.Ref{Name: m.word(), At: m.place()}
	if levels > 0 && m.bool() {
		r.Args = listOf(m, 0, 4, func() api.Ref { return m.ref(levels - 1 - m.Intn(2)) })
	}
	return r
}

func (m maker) act(syms, levels int) api.Act {
	switch n := m.Intn(5); {
	case n == 0 && syms > 0:
		return api.Act{Kind: api.ActPick, At: m.Intn(syms)}
	case n == 1:
		return api.Act{Kind: api.ActText, Name: []string{"", "a b", "\x00\xff\n\"", "é"}[m.Intn(4)]}
	case n < 4 && levels > 0:
		return api.Act{Kind: api.ActNode, Name: m.word(), Kids: listOf(m, 0, 3, func() api.Act { return m.act(syms, levels-1) })}
	}
	return api.Act{}
}

func (m maker) alt() api.Alt {
	a := api.Alt{Syms: listOf(m, 0, 3, func() api.Ref { return m.ref(2) }), Prec: m.maybe(), At: m.place()}
	a.Act = m.act(len(a.Syms), 3)
	return a
}

// tree is one that is right.
func (m maker) tree() api.Spec {
	return api.Spec{
		Name: m.word(),
		Uses: listOf(m, 0, 2, func() api.Use {
			return api.Use{Module: m.word(), Names: listOf(m, 0, 3, func() api.Rename { return api.Rename{Name: m.word(), As: m.word()} }), At: m.place()}
		}),
		Lex: listOf(m, 0, 3, func() api.LexLine {
			return api.LexLine{Mode: m.word(), Name: m.maybe(), Re: m.regex(), Push: m.maybe(), Pop: m.bool(), At: m.place()}
		}),
		Precs: listOf(m, 0, 2, func() api.PrecLine {
			return api.PrecLine{Assoc: api.AssocLeft + m.Intn(3), Names: m.wordList(1, 3), At: m.place()}
		}),
		Datas: listOf(m, 0, 2, func() api.DataLine {
			ctor := func() api.Ctor { return api.Ctor{Name: m.word(), Fields: m.wordList(0, 3)} }
			return api.DataLine{Data: api.Data{Name: m.word(), Ctors: listOf(m, 1, 3, ctor)}, At: m.place()}
		}),
		Rules: listOf(m, 0, 3, func() api.RuleLine {
			return api.RuleLine{Name: m.word(), Open: m.bool(), Inline: m.bool(), Params: m.wordList(0, 4), Type: m.maybe(), Alts: listOf(m, 1, 4, m.alt), At: m.place()}
		}),
		Starts: m.wordList(0, 3),
	}
}

// clone is a tree in memory of its own.
func clone[T any](x T) T { return cloneValue(reflect.ValueOf(&x).Elem()).Interface().(T) }

func cloneValue(v reflect.Value) reflect.Value {
	made := reflect.New(v.Type()).Elem()
	switch v.Kind() {
	case reflect.Struct:
		for i := range v.NumField() {
			made.Field(i).Set(cloneValue(v.Field(i)))
		}
	case reflect.Slice:
		for i := range v.Len() {
			made = reflect.Append(made, cloneValue(v.Index(i)))
		}
	default:
		made.Set(v)
	}
	return made
}

// onePart is a part of a tree that is no struct: a list, or what has no parts.
type onePart struct {
	value reflect.Value // to be set
	place bool
	path  string
}

// partsOf are all parts of a tree.
func partsOf(s *api.Spec) []onePart {
	var l []onePart
	var visit func(v reflect.Value, place bool, path string)
	visit = func(v reflect.Value, place bool, path string) {
		switch v.Kind() {
		case reflect.Struct:
			for i := range v.NumField() {
				visit(v.Field(i), isPlace(v.Type(), i), path+"."+v.Type().Field(i).Name)
			}
			return
		case reflect.Slice:
			for i := range v.Len() {
				visit(v.Index(i), place, path+"["+strconv.Itoa(i)+"]")
			}
		}
		l = append(l, onePart{v, place, path})
	}
	visit(reflect.ValueOf(s).Elem(), false, "")
	return l
}

// others are values that a part could have in its stead.
func others(v reflect.Value) []reflect.Value {
	var l []reflect.Value
	add := func(x any) { l = append(l, reflect.ValueOf(x).Convert(v.Type())) }
	switch v.Kind() {
	case reflect.String:
		for _, s := range []string{"", "a", "b", "_", "__", "rule", "push", "9", "a b", "a;", "a//", "é", "a-b", "$1", " a", "a ", "error", strings.Repeat("w", 32), strings.Repeat("w", 33), "\"q\"", strings.Repeat("q", 4096), strings.Repeat("q", 4097)} {
			add(s)
		}
	case reflect.Bool:
		add(!v.Bool())
	case reflect.Int, reflect.Int32:
		for n := int64(-2); n < 6; n++ {
			add(n)
		}
		add(v.Int() + 1)
		add(v.Int() - 1)
	case reflect.Slice:
		l = append(l, reflect.Zero(v.Type()), reflect.MakeSlice(v.Type(), 0, 3), reflect.MakeSlice(v.Type(), 1, 1))
		if v.Len() > 0 {
			l = append(l, v.Slice(1, v.Len()), v.Slice(0, v.Len()-1))
			for _, most := range []int{4, 16, 32, 256} {
				for _, many := range []int{most, most + 1} {
					x := reflect.MakeSlice(v.Type(), 0, many)
					for range many {
						x = reflect.Append(x, v.Index(0))
					}
					l = append(l, x)
				}
			}
		}
	}
	return l
}

// isSame is spec.Same, asked both ways.
func isSame(a, b api.Spec) (is, sure bool) {
	is = spec.Same(a, b)
	return is, is == spec.Same(b, a)
}
