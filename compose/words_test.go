package compose_test

import (
	"reflect"
	"slices"
	"strconv"
	"strings"
	"testing"

	"quoin/api"
	"quoin/compose"
	"quoin/spec"
)

// The chapter's words by the letter: lists that are searched from end to end, and each thing found anew where it is asked for.

// wordRule is an own rule of a module: they are the same, if they are at the same place.
type wordRule struct {
	module *wordModule
	line   api.RuleLine
}

// wordUsed is a used name, and the rule of its module.
type wordUsed struct {
	as   string
	rule *wordRule
}

// wordModule is a module of the order.
type wordModule struct {
	api.Spec
	rules []*wordRule
}

// words are all modules of the order.
type words struct {
	order []*wordModule
	known map[*wordRule]string // the names of rules that come, once they were asked for
}

// wordsUpTo3 are the modules in the order, or what is wrong up to 3.
func wordsUpTo3(main string, l []api.Spec) (words, []api.Diag) {
	w := words{known: map[*wordRule]string{}}
	var wrong []api.Diag
	for _, s := range l {
		if !spec.Right(s) {
			wrong = append(wrong, api.Diag{Module: s.Name, Why: api.ErrArg})
		}
	}
	if wrong != nil {
		return words{}, wrong
	}
	at := func(name string) int { return slices.IndexFunc(l, func(s api.Spec) bool { return s.Name == name }) }
	for i, s := range l {
		if at(s.Name) < i {
			wrong = append(wrong, api.Diag{Module: s.Name, Why: api.ErrModule})
		}
	}
	if at(main) < 0 {
		wrong = append(wrong, api.Diag{Module: main, Why: api.ErrModule})
	}
	if wrong != nil {
		return words{}, wrong
	}
	var visit func(s api.Spec, visited []string)
	visit = func(s api.Spec, visited []string) {
		m := &wordModule{Spec: s}
		for _, r := range s.Rules {
			m.rules = append(m.rules, &wordRule{m, r})
		}
		w.order = append(w.order, m)
		visited = append(slices.Clone(visited), s.Name)
		for _, u := range s.Uses {
			if at(u.Module) < 0 {
				wrong = append(wrong, api.Diag{Module: s.Name, Why: api.ErrModule, At: u.At})
			} else if slices.Contains(visited, u.Module) {
				wrong = append(wrong, api.Diag{Module: s.Name, Why: api.ErrRing, At: u.At})
			} else if w.find(u.Module) == nil {
				visit(l[at(u.Module)], visited)
			}
		}
	}
	visit(l[at(main)], nil)
	if wrong != nil {
		return words{}, wrong
	}
	return w, nil
}

// find is a module of the order; nil, if it is none.
func (w words) find(name string) *wordModule {
	for _, m := range w.order {
		if m.Name == name {
			return m
		}
	}
	return nil
}

// own is the first own rule of a name; nil, if there is none.
func (m *wordModule) own(name string) *wordRule {
	for _, r := range m.rules {
		if r.line.Name == name {
			return r
		}
	}
	return nil
}

// used are a module's used names.
func (w words) used(m *wordModule) []wordUsed {
	var l []wordUsed
	for _, u := range m.Uses {
		l = append(l, w.usedBy(u)...)
	}
	return slices.DeleteFunc(l, func(u wordUsed) bool { return u.rule == nil })
}

// usedBy are the names that one Use tells; those of which there is no rule, too.
func (w words) usedBy(u api.Use) []wordUsed {
	var l []wordUsed
	from := w.find(u.Module)
	for _, n := range u.Names {
		l = append(l, wordUsed{n.As, from.own(n.Name)})
	}
	if len(u.Names) == 0 {
		for _, r := range from.rules {
			if r.line.Open {
				l = append(l, wordUsed{r.line.Name, r})
			}
		}
	}
	return l
}

// usedRule is the rule of the first used name that is a word; nil, if none is.
func (w words) usedRule(m *wordModule, word string) *wordRule {
	for _, u := range w.used(m) {
		if u.as == word {
			return u.rule
		}
	}
	return nil
}

// extended is the rule that one extends; nil, if it extends none.
func (w words) extended(r *wordRule) *wordRule {
	if !r.line.Open {
		return nil
	}
	u := w.usedRule(r.module, r.line.Name)
	if u == nil {
		return nil
	}
	return w.through(u)
}

// through is the rule that is meant by one: what it extends, or itself.
func (w words) through(r *wordRule) *wordRule {
	if x := w.extended(r); x != nil {
		return x
	}
	return r
}

// meant is the rule that a word means in a module; nil, if it means none.
func (w words) meant(m *wordModule, word string) *wordRule {
	if r := m.own(word); r != nil {
		return w.through(r)
	}
	if r := w.usedRule(m, word); r != nil {
		return w.through(r)
	}
	return nil
}

// kinds are a module's kinds.
func kinds(s api.Spec) []string {
	var l []string
	for _, line := range s.Lex {
		if line.Name != "" {
			l = append(l, line.Name)
		}
	}
	return l
}

// allKinds are those of any module in the order.
func (w words) allKinds() []string {
	var l []string
	for _, m := range w.order {
		l = append(l, kinds(m.Spec)...)
	}
	return l
}

// wrong4 is what is wrong with names.
func (w words) wrong4() []api.Diag {
	var wrong []api.Diag
	for _, m := range w.order {
		tell := func(why api.Errno, at int) { wrong = append(wrong, api.Diag{Module: m.Name, Why: why, At: at}) }
		var ahead []string
		for _, u := range m.Uses {
			for _, x := range w.usedBy(u) {
				isShut := slices.ContainsFunc(m.Rules, func(r api.RuleLine) bool { return r.Name == x.as && !r.Open })
				switch {
				case x.rule == nil:
					tell(api.ErrNone, u.At)
					continue
				case !x.rule.line.Open:
					tell(api.ErrClosed, u.At)
				case slices.Contains(ahead, x.as) || isShut:
					tell(api.ErrThere, u.At)
				}
				ahead = append(ahead, x.as)
			}
		}
		for _, r := range m.rules {
			isThere := m.own(r.line.Name) != r
			for _, p := range r.line.Params {
				isThere = isThere || m.own(p) != nil || w.usedRule(m, p) != nil || slices.Contains(w.allKinds(), p)
			}
			x := w.extended(r)
			switch {
			case isThere:
				tell(api.ErrThere, r.line.At)
			case x != nil && (len(x.line.Params) != len(r.line.Params) || x.line.Type != r.line.Type || x.line.Inline != r.line.Inline):
				tell(api.ErrClash, r.line.At)
			}
		}
	}
	return wrong
}

// wrong5 is what is wrong with kinds and types.
func (w words) wrong5() []api.Diag {
	var wrong []api.Diag
	var ahead []string
	var datas []api.Data
	for _, m := range w.order {
		for _, line := range m.Lex {
			if slices.Contains(ahead, line.Name) {
				wrong = append(wrong, api.Diag{Module: m.Name, Why: api.ErrClash, At: line.At})
			}
		}
		ahead = append(ahead, kinds(m.Spec)...)
		for _, line := range m.Datas {
			has := func(d api.Data) bool {
				return d.Name == line.Data.Name || slices.ContainsFunc(d.Ctors, func(c api.Ctor) bool {
					return slices.ContainsFunc(line.Data.Ctors, func(x api.Ctor) bool { return x.Name == c.Name })
				})
			}
			if slices.ContainsFunc(datas, has) {
				wrong = append(wrong, api.Diag{Module: m.Name, Why: api.ErrClash, At: line.At})
			}
			datas = append(datas, line.Data)
		}
	}
	return wrong
}

// wrong6 is which symbols mean nothing.
func (w words) wrong6() []api.Diag {
	var wrong []api.Diag
	for _, m := range w.order {
		for _, r := range m.rules {
			var look func(x api.Ref)
			look = func(x api.Ref) {
				isThere := slices.Contains(r.line.Params, x.Name) || m.own(x.Name) != nil || w.usedRule(m, x.Name) != nil ||
					x.Name == "error" || slices.Contains(w.allKinds(), x.Name)
				if !isThere {
					wrong = append(wrong, api.Diag{Module: m.Name, Why: api.ErrUnknown, At: x.At})
				}
				for _, y := range x.Args {
					look(y)
				}
			}
			for _, a := range r.line.Alts {
				for _, x := range a.Syms {
					look(x)
				}
			}
		}
	}
	return wrong
}

// comes are the rules that come, each with those that extend it behind it.
func (w words) comes() [][]*wordRule {
	var l [][]*wordRule
	for _, m := range w.order {
		for _, r := range m.rules {
			if w.extended(r) != nil {
				continue
			}
			group := []*wordRule{r}
			for _, n := range w.order {
				for _, x := range n.rules {
					if w.extended(x) == r {
						group = append(group, x)
					}
				}
			}
			l = append(l, group)
		}
	}
	return l
}

// other is a name of its own for a word, which none of a list has.
func other(word string, not []string) string {
	if len(word) > 26 {
		word = word[:26]
	}
	for n := 2; ; n++ {
		if made := word + "_" + strconv.Itoa(n); !slices.Contains(not, made) {
			return made
		}
	}
}

// names are the names of the rules that come, and their parameters.
func (w words) names() ([]string, [][]string) {
	var not []string
	for _, m := range w.order {
		for _, r := range m.rules {
			not = append(append(not, r.line.Name), r.line.Params...)
		}
	}
	not = append(not, w.allKinds()...)
	var names []string
	for _, group := range w.comes() {
		name := group[0].line.Name
		if slices.Contains(names, name) || slices.Contains(w.allKinds(), name) || name == "error" {
			name = other(name, slices.Concat(not, names))
		}
		names = append(names, name)
	}
	var params [][]string
	for _, group := range w.comes() {
		var l []string
		for _, p := range group[0].line.Params {
			if slices.Contains(names, p) {
				p = other(p, slices.Concat(not, names, l))
			}
			l = append(l, p)
		}
		params = append(params, l)
	}
	return names, params
}

// name is a rule's name in what comes.
func (w words) name(r *wordRule) string {
	if len(w.known) == 0 {
		names, _ := w.names()
		for i, group := range w.comes() {
			w.known[group[0]] = names[i]
		}
	}
	return w.known[r]
}

// composed is what comes.
func (w words) composed() api.Spec {
	s := api.Spec{Name: w.order[0].Name}
	for _, m := range w.order {
		s.Lex = append(s.Lex, m.Lex...)
		s.Precs = append(s.Precs, m.Precs...)
		s.Datas = append(s.Datas, m.Datas...)
	}
	names, params := w.names()
	for i, group := range w.comes() {
		r := group[0].line
		r.Name, r.Params, r.Open, r.Alts = names[i], params[i], true, nil
		for _, x := range group {
			for _, a := range x.line.Alts {
				a.Syms = w.refs(x, params[i], a.Syms)
				r.Alts = append(r.Alts, a)
			}
		}
		s.Rules = append(s.Rules, r)
	}
	for _, word := range w.order[0].Starts {
		if r := w.meant(w.order[0], word); r != nil {
			word = w.name(r)
		}
		s.Starts = append(s.Starts, word)
	}
	return s
}

// refs are a rule's symbols in what comes, where its parameters have these names.
func (w words) refs(r *wordRule, params []string, l []api.Ref) []api.Ref {
	var made []api.Ref
	for _, x := range l {
		at := slices.Index(r.line.Params, x.Name)
		rule := w.meant(r.module, x.Name)
		switch {
		case at >= 0:
			x.Name = params[at]
		case rule != nil:
			x.Name = w.name(rule)
		}
		x.Args = w.refs(r, params, x.Args)
		made = append(made, x)
	}
	return made
}

// wrong7 is whether what comes has more than may be.
func (w words) wrong7() []api.Diag {
	var lex, precs, datas int
	for _, m := range w.order {
		lex, precs, datas = lex+len(m.Lex), precs+len(m.Precs), datas+len(m.Datas)
	}
	isMore := lex > 256 || precs > 256 || datas > 256 || len(w.comes()) > 256
	for _, group := range w.comes() {
		alts := 0
		for _, r := range group {
			alts += len(r.line.Alts)
		}
		isMore = isMore || alts > 256
	}
	if isMore {
		return []api.Diag{{Module: w.order[0].Name, Why: api.ErrItems}}
	}
	return nil
}

// wrong is all that is wrong behind 3.
func (w words) wrong() []api.Diag {
	return slices.Concat(w.wrong4(), w.wrong5(), w.wrong6(), w.wrong7())
}

// told is a value as a text in which all of it stands; lists that are empty are one.
func told(v any) string {
	var b strings.Builder
	tell(&b, reflect.ValueOf(v))
	return b.String()
}

func tell(b *strings.Builder, v reflect.Value) {
	switch v.Kind() {
	case reflect.Struct:
		b.WriteString("{")
		for i := range v.NumField() {
			b.WriteString(v.Type().Field(i).Name + ":")
			tell(b, v.Field(i))
			b.WriteString(" ")
		}
		b.WriteString("}")
	case reflect.Slice:
		b.WriteString("[")
		for i := range v.Len() {
			tell(b, v.Index(i))
			b.WriteString(",")
		}
		b.WriteString("]")
	case reflect.String:
		b.WriteString(strconv.Quote(v.String()))
	case reflect.Bool:
		b.WriteString(strconv.FormatBool(v.Bool()))
	default:
		b.WriteString(strconv.FormatInt(v.Int(), 10))
	}
}

// likeWords holds all calls against the words, and tells what is wrong, and what comes.
func likeWords(t testing.TB, main string, l ...api.Spec) (api.Spec, []api.Diag) {
	t.Helper()
	w, wrong := wordsUpTo3(main, l)
	var order []string
	for _, m := range w.order {
		order = append(order, m.Name)
	}
	if got, diags := compose.Order(main, l...); !slices.Equal(got, order) || !slices.Equal(diags, wrong) {
		t.Fatalf("Order: %q %v, want %q %v\n%s", got, diags, order, wrong, texts(l))
	}
	if wrong == nil {
		wrong = w.wrong()
	}
	if got := compose.Check(main, l...); !slices.Equal(got, wrong) {
		t.Fatalf("Check: %v, want %v\n%s", got, wrong, texts(l))
	}
	var want api.Spec
	if wrong == nil {
		want = w.composed()
	}
	got, diags := compose.Compose(main, l...)
	if told(got) != told(want) || !slices.Equal(diags, wrong) {
		t.Fatalf("Compose:\n%s%v\nwant\n%s%v\n%s", texts([]api.Spec{got}), diags, texts([]api.Spec{want}), wrong, texts(l))
	}
	likeNames(t, w, wrong != nil, main, l)
	return got, wrong
}

// likeNames holds Name against the words, of all modules' own rules, and of some names that may be none.
func likeNames(t testing.TB, w words, isWrong bool, main string, l []api.Spec) {
	t.Helper()
	hold := func(module, rule string) {
		want, wantE := "", api.ErrNone
		if m := w.find(module); isWrong {
			wantE = api.ErrArg
		} else if m != nil && m.own(rule) != nil {
			want, wantE = w.name(w.through(m.own(rule))), api.OK
		}
		if got, e := compose.Name(main, module, rule, l...); got != want || e != wantE {
			t.Fatalf("Name(%q, %q, %q): %q %v, want %q %v\n%s", main, module, rule, got, e, want, wantE, texts(l))
		}
	}
	hold("", "")
	hold("none_such", "error")
	for i, s := range l {
		hold(s.Name, "error")
		for _, r := range s.Rules {
			hold(s.Name, r.Name)
			hold(l[(i+1)%len(l)].Name, r.Name)
		}
		for _, u := range s.Uses {
			for _, n := range u.Names {
				hold(s.Name, n.As)
			}
		}
	}
}

// namesOf are modules' names.
func namesOf(l []api.Spec) []string {
	var names []string
	for _, s := range l {
		names = append(names, s.Name)
	}
	return names
}
