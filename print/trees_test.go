package print_test

import (
	"math/rand"
	"reflect"
	"strconv"
	"strings"

	"quoin/api"
	"quoin/regex"
)

// Trees at random, trees as other texts than the laid-out one, and trees part by part.

// repeated is a list of so many of one thing.
func repeated[T any](many int, x T) []T {
	var l []T
	for range many {
		l = append(l, x)
	}
	return l
}

// set is an expression of one rune.
func set(c rune) api.Regex {
	return api.Regex{Kind: api.ReSet, Set: []api.Range{{Lo: c, Hi: c}}}
}

// pick, none, quoted and node are actions.
func pick(at int) api.Act     { return api.Act{Kind: api.ActPick, At: at} }
func none() api.Act           { return api.Act{Kind: api.ActNone} }
func quoted(s string) api.Act { return api.Act{Kind: api.ActText, Name: s} }
func node(name string, kids ...api.Act) api.Act {
	return api.Act{Kind: api.ActNode, Name: name, Kids: kids}
}
func ref(name string, args ...api.Ref) api.Ref       { return api.Ref{Name: name, Args: args} }
func rule(name string, alts ...api.Alt) api.RuleLine { return api.RuleLine{Name: name, Alts: alts} }

// refs are symbols without arguments.
func refs(names ...string) []api.Ref {
	var l []api.Ref
	for _, name := range names {
		l = append(l, ref(name))
	}
	return l
}

// plainTree has one of everything.
func plainTree() api.Spec {
	return api.Spec{
		Name:  "M",
		Uses:  []api.Use{{Module: "U", Names: []api.Rename{{Name: "a", As: "b"}}, At: 1}},
		Lex:   []api.LexLine{{Mode: "main", Name: "T", Re: set('a'), Push: "in", Pop: true, At: 2}},
		Precs: []api.PrecLine{{Assoc: api.AssocLeft, Names: []string{"T"}, At: 3}},
		Datas: []api.DataLine{{Data: api.Data{Name: "D", Ctors: []api.Ctor{{Name: "N", Fields: []string{"D"}}}}, At: 4}},
		Rules: []api.RuleLine{{Name: "r", Open: true, Inline: true, Params: []string{"p"}, Type: "D", At: 5,
			Alts: []api.Alt{{Syms: []api.Ref{{Name: "p", Args: []api.Ref{{Name: "x", At: 8}}, At: 7}, {Name: "y"}}, Prec: "T", At: 6,
				Act: node("N", pick(1), quoted("q"), none())}}}},
		Starts: []string{"r"},
	}
}

// maker makes trees at random.
type maker struct{ *rand.Rand }

func newMaker(seed int64) maker { return maker{rand.New(rand.NewSource(seed))} }

var makerWords = []string{"a", "b", "c", "error", "text", "main", "_1", "X9", strings.Repeat("w", 32)}

func (m maker) word() string { return makerWords[m.Intn(len(makerWords))] }

// maybe is a word, or none.
func (m maker) maybe() string {
	if m.Intn(2) == 0 {
		return ""
	}
	return m.word()
}

func (m maker) bool() bool { return m.Intn(2) == 0 }

func (m maker) wordList(least, most int) []string { return listOf(m, least, most, m.word) }

// listOf are so many at random.
func listOf[T any](m maker, least, most int, one func() T) []T {
	var l []T
	for range least + m.Intn(most-least+1) {
		l = append(l, one())
	}
	return l
}

// regex is an expression of few levels; of a text whose expression would be too large none.
func (m maker) regex() api.Regex {
	r, _ := regex.Parse(m.regexText(4))
	return r
}

func (m maker) regexText(levels int) string {
	if levels == 0 || m.Intn(4) == 0 {
		return []string{`"a"`, `[a-c x]`, `[]`, `""`, `.`, `"//;"`, `"\n\""`, `[\u{d800} \- \]]`}[m.Intn(8)]
	}
	one, other := m.regexText(levels-1), m.regexText(levels-1)
	return []string{one + other, one + "|" + other, one + "&" + other, "(" + one + ")" + other, "!" + one, "(" + one + ")*", "(" + one + "){1,2}", "!(" + one + "|" + other + ")"}[m.Intn(8)]
}

func (m maker) place() int { return m.Intn(9) - 1 }

func (m maker) ref(levels int) api.Ref {
	r := api.Ref{Name: m.word(), At: m.place()}
	if levels > 0 && m.bool() {
		r.Args = listOf(m, 0, 4, func() api.Ref { return m.ref(levels - 1 - m.Intn(2)) })
	}
	return r
}

func (m maker) act(syms, levels int) api.Act {
	switch n := m.Intn(5); {
	case n == 0 && syms > 0:
		return pick(m.Intn(syms))
	case n == 1:
		return quoted([]string{"", "a b", "\x00\xff\n\"\\", "é//;"}[m.Intn(4)])
	case n < 4 && levels > 0:
		return node(m.word(), listOf(m, 0, 3, func() api.Act { return m.act(syms, levels-1) })...)
	}
	return none()
}

func (m maker) alt() api.Alt {
	a := api.Alt{Syms: listOf(m, 0, 3, func() api.Ref { return m.ref(2) }), Prec: m.maybe(), At: m.place()}
	a.Act = m.act(len(a.Syms), 3)
	return a
}

func (m maker) rename() api.Rename {
	n := api.Rename{Name: m.word(), As: m.word()}
	if m.bool() {
		n.As = n.Name
	}
	return n
}

func (m maker) rule() api.RuleLine {
	return api.RuleLine{Name: m.word(), Open: m.bool(), Inline: m.bool(), Params: m.wordList(0, 4), Type: m.maybe(), Alts: listOf(m, 1, 4, m.alt), At: m.place()}
}

// mode is one of few: neighbours often have the same.
func (m maker) mode() string { return []string{"main", "in"}[m.Intn(2)] }

// tree is one that is right.
func (m maker) tree() api.Spec {
	return api.Spec{
		Name: m.word(),
		Uses: listOf(m, 0, 2, func() api.Use {
			return api.Use{Module: m.word(), Names: listOf(m, 0, 3, m.rename), At: m.place()}
		}),
		Lex: listOf(m, 0, 4, func() api.LexLine {
			return api.LexLine{Mode: m.mode(), Name: m.maybe(), Re: m.regex(), Push: m.maybe(), Pop: m.bool(), At: m.place()}
		}),
		Precs: listOf(m, 0, 2, func() api.PrecLine {
			return api.PrecLine{Assoc: api.AssocLeft + m.Intn(3), Names: m.wordList(1, 3), At: m.place()}
		}),
		Datas: listOf(m, 0, 2, func() api.DataLine {
			ctor := func() api.Ctor { return api.Ctor{Name: m.word(), Fields: m.wordList(0, 3)} }
			return api.DataLine{Data: api.Data{Name: m.word(), Ctors: listOf(m, 1, 3, ctor)}, At: m.place()}
		}),
		Rules:  listOf(m, 0, 3, m.rule),
		Starts: m.wordList(0, 3),
	}
}

// otherText is a text that has a tree that is right: its declarations stand in any order in which those of a kind keep theirs, with any gaps; what need not be told may be told.
func (m maker) otherText(s api.Spec) string {
	var groups [6][]string
	for _, u := range s.Uses {
		groups[0] = append(groups[0], m.useText(u))
	}
	for _, l := range s.Lex {
		groups[1] = append(groups[1], m.gapped("mode other ; mode", l.Mode, ";", m.lexText(l)))
	}
	for _, l := range s.Precs {
		groups[2] = append(groups[2], m.gapped([]string{"", "left", "right", "none"}[l.Assoc], m.gapped(l.Names...), ";"))
	}
	for _, d := range s.Datas {
		var l []string
		for _, c := range d.Data.Ctors {
			l = append(l, m.gapped(c.Name, m.listed(c.Fields)))
		}
		groups[3] = append(groups[3], m.gapped("type", d.Data.Name, "=", strings.Join(l, "|"), ";"))
	}
	for _, r := range s.Rules {
		groups[4] = append(groups[4], m.ruleText(r))
	}
	for _, x := range s.Starts {
		groups[5] = append(groups[5], m.gapped("start", x, ";"))
	}
	l := []string{"module", s.Name, ";"}
	for left := true; left; {
		left = false
		for _, i := range m.Perm(6) {
			if len(groups[i]) > 0 && m.bool() {
				l = append(l, groups[i][0])
				groups[i] = groups[i][1:]
			}
			left = left || len(groups[i]) > 0
		}
	}
	return m.gapped(l...)
}

// gapped are tokens with gaps between any two.
func (m maker) gapped(l ...string) string {
	var b strings.Builder
	for _, x := range l {
		b.WriteString(x)
		b.WriteString([]string{" ", "\n", "\t\r", " // rule = \"\n", "  "}[m.Intn(5)])
	}
	return b.String()
}

// listed is a list in ( ), if it has something.
func (m maker) listed(l []string) string {
	if len(l) == 0 {
		return ""
	}
	return m.gapped("(", strings.Join(l, m.gapped("", ",")), ")")
}

func (m maker) useText(u api.Use) string {
	var l []string
	for _, n := range u.Names {
		x := n.Name
		if n.As != n.Name || m.bool() {
			x = m.gapped(n.Name, "as", n.As)
		}
		l = append(l, x)
	}
	return m.gapped("use", u.Module, m.listed(l), ";")
}

func (m maker) lexText(l api.LexLine) string {
	re, _ := regex.Text(l.Re)
	x := []string{"skip", "=", "(" + re + ")"}
	if l.Name != "" {
		x = []string{"token", l.Name, "=", "(" + re + ")"}
	}
	if l.Pop {
		x = append(x, "pop")
	}
	if l.Push != "" {
		x = append(x, "push", l.Push)
	}
	return m.gapped(append(x, ";")...)
}

func (m maker) ruleText(r api.RuleLine) string {
	var l []string
	if r.Open {
		l = append(l, "open")
	}
	if r.Inline {
		l = append(l, "inline")
	}
	l = append(l, "rule", r.Name, m.listed(r.Params))
	if r.Type != "" {
		l = append(l, ":", r.Type)
	}
	for i, a := range r.Alts {
		l = append(l, []string{"=", "|"}[min(i, 1)])
		for _, x := range a.Syms {
			l = append(l, m.refText(x))
		}
		if a.Prec != "" {
			l = append(l, "prec", a.Prec)
		}
		l = append(l, "=>", m.actText(a.Act))
	}
	return m.gapped(append(l, ";")...)
}

func (m maker) refText(r api.Ref) string {
	var l []string
	for _, x := range r.Args {
		l = append(l, m.refText(x))
	}
	return m.gapped(r.Name, m.listed(l))
}

func (m maker) actText(a api.Act) string {
	switch a.Kind {
	case api.ActPick:
		return m.gapped("$", strconv.Itoa(a.At+1))
	case api.ActText:
		var b strings.Builder
		for _, c := range []byte(a.Name) {
			b.WriteString(`\x` + string("0123456789abcdef"[c>>4]) + string("0123456789abcdef"[c&15]))
		}
		return `"` + b.String() + `"`
	case api.ActNode:
		var l []string
		for _, x := range a.Kids {
			l = append(l, m.actText(x))
		}
		return m.gapped(a.Name, m.listed(l))
	}
	return "_"
}

// clone is a value in memory of its own.
func clone[T any](x T) T { return cloneValue(reflect.ValueOf(&x).Elem()).Interface().(T) }

func cloneValue(v reflect.Value) reflect.Value {
	made := reflect.New(v.Type()).Elem()
	switch v.Kind() {
	case reflect.Struct:
		for i := range v.NumField() {
			made.Field(i).Set(cloneValue(v.Field(i)))
		}
	case reflect.Slice:
		for i := range v.Len() {
			made = reflect.Append(made, cloneValue(v.Index(i)))
		}
	default:
		made.Set(v)
	}
	return made
}

// onePart is a part of a value that is no struct: a list, or what has no parts.
type onePart struct {
	value reflect.Value // to be set
	place bool
	path  string
}

// partsOf are all parts of what is pointed to.
func partsOf(x any) []onePart {
	var l []onePart
	var visit func(v reflect.Value, place bool, path string)
	visit = func(v reflect.Value, place bool, path string) {
		switch v.Kind() {
		case reflect.Struct:
			for i := range v.NumField() {
				visit(v.Field(i), isPlace(v.Type(), i), path+"."+v.Type().Field(i).Name)
			}
			return
		case reflect.Slice:
			for i := range v.Len() {
				visit(v.Index(i), place, path+"["+strconv.Itoa(i)+"]")
			}
		}
		l = append(l, onePart{v, place, path})
	}
	visit(reflect.ValueOf(x).Elem(), false, "")
	return l
}

// moved is a value with other places; lists that are empty may be other ones.
func moved[T any](m maker, x T) T {
	made := clone(x)
	for _, p := range partsOf(&made) {
		if p.place {
			p.value.SetInt(int64(m.Intn(999) - 99))
		}
		if p.value.Kind() == reflect.Slice && p.value.Len() == 0 {
			p.value.Set(reflect.MakeSlice(p.value.Type(), 0, m.Intn(2)))
		}
	}
	return made
}

// others are values that a part could have in its stead.
func others(v reflect.Value) []reflect.Value {
	var l []reflect.Value
	add := func(x any) { l = append(l, reflect.ValueOf(x).Convert(v.Type())) }
	switch v.Kind() {
	case reflect.String:
		for _, s := range []string{"", "a", "b", "_", "__", "rule", "push", "9", "a b", "a;", "a//", "é", "$1", " a", "a ", "main", "x(y)", strings.Repeat("w", 32), strings.Repeat("w", 33), "\"q\"", strings.Repeat("q", 4096), strings.Repeat("q", 4097)} {
			add(s)
		}
	case reflect.Bool:
		add(!v.Bool())
	case reflect.Int, reflect.Int32:
		for n := int64(-2); n < 6; n++ {
			add(n)
		}
		add(v.Int() + 1)
		add(v.Int() - 1)
	case reflect.Slice:
		l = append(l, reflect.Zero(v.Type()), reflect.MakeSlice(v.Type(), 0, 3), reflect.MakeSlice(v.Type(), 1, 1))
		if v.Len() > 0 {
			l = append(l, v.Slice(1, v.Len()), v.Slice(0, v.Len()-1))
			for _, most := range []int{4, 16, 32, 256} {
				for _, many := range []int{most, most + 1} {
					x := reflect.MakeSlice(v.Type(), 0, many)
					for range many {
						x = reflect.Append(x, v.Index(0))
					}
					l = append(l, x)
				}
			}
		}
	}
	return l
}
