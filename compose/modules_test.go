package compose_test

import (
	"math/rand"
	"reflect"
	"slices"
	"strings"
	"testing"

	"quoin/api"
	"quoin/compose"
	"quoin/spec"
)

// Modules at random, held against the words.

// maker makes modules at random.
type maker struct{ *rand.Rand }

func newMaker(seed int64) maker { return maker{rand.New(rand.NewSource(seed))} }

func (m maker) bool() bool { return m.Intn(2) == 0 }

// oneOf is one of a list.
func oneOf[T any](m maker, l []T) T { return l[m.Intn(len(l))] }

var long = strings.Repeat("w", 30)

// pool are the words of rules, parameters and kinds: few, so that they meet.
var pool = []string{"a", "b", "s", "x", "y", "error", "a_2", "a_3", "s_2", "x_2", "A", "B", long + "a", long + "b", long[:26], long[:26] + "_2", long[:26] + "_3", "error_2"}

// head is what an extension must have the same.
type head struct {
	params int
	kind   string
	inline bool
}

// made is a module on the way: what its rules and used names are like.
type made struct {
	spec api.Spec
	own  map[string]head
	used map[string]head
}

// tidy are modules with which nothing is wrong, the first one M; each uses some that stand behind it.
func (m maker) tidy(many int) []api.Spec {
	kinds := m.kinds(many)
	all := slices.Concat(kinds...)
	l := make([]*made, many)
	users := make([]int, many) // each but the first is used by one at the least
	for i := 1; i < many; i++ {
		users[i] = m.Intn(i)
	}
	for i := many - 1; i >= 0; i-- {
		name := "M"
		if i > 0 {
			name = string(rune('A' + i - 1)) // as words of the pool, which does not matter
		}
		l[i] = &made{spec: api.Spec{Name: name}, own: map[string]head{}, used: map[string]head{}}
		m.others(l[i], kinds[i], i)
		for j := i + 1; j < many; j++ {
			if users[j] == i || m.Intn(3) == 0 {
				m.use(l[i], l[j], users[j] == i)
			}
		}
		m.Shuffle(len(l[i].spec.Uses), func(a, b int) { u := l[i].spec.Uses; u[a], u[b] = u[b], u[a] })
		m.rules(l[i], all)
		for range m.Intn(3) {
			l[i].spec.Starts = append(l[i].spec.Starts, oneOf(m, pool))
		}
	}
	var specs []api.Spec
	for _, x := range l {
		specs = append(specs, x.spec)
	}
	return specs
}

// kinds are words for each of so many modules, none twice.
func (m maker) kinds(many int) [][]string {
	l := make([][]string, many)
	for _, word := range append([]string{"K", "L"}, pool...) {
		if m.Intn(6) == 0 {
			i := m.Intn(many)
			l[i] = append(l[i], word)
		}
	}
	return l
}

// others adds scanner rules, levels and types.
func (m maker) others(x *made, kinds []string, number int) {
	for _, word := range append(kinds, "") {
		if m.bool() || word != "" {
			re := api.Regex{Kind: api.ReSet, Set: []api.Range{{Lo: 'a', Hi: 'c'}}}
			if m.bool() {
				re = api.Regex{Kind: api.ReStar, Kids: []api.Regex{re}}
			}
			x.spec.Lex = append(x.spec.Lex, api.LexLine{Mode: oneOf(m, []string{"main", "in"}), Name: word, Re: re, Push: oneOf(m, []string{"", "in"}), Pop: m.bool(), At: m.Intn(1000)})
		}
	}
	for range m.Intn(2) {
		x.spec.Precs = append(x.spec.Precs, api.PrecLine{Assoc: api.AssocLeft + m.Intn(3), Names: []string{oneOf(m, pool), oneOf(m, pool)}, At: m.Intn(1000)})
	}
	for i := range m.Intn(3) {
		n := string(rune('a'+number)) + string(rune('a'+i))
		x.spec.Datas = append(x.spec.Datas, api.DataLine{Data: api.Data{Name: "T" + n, Ctors: []api.Ctor{{Name: "C" + n, Fields: []string{"text", oneOf(m, pool)}}, {Name: "D" + n}}}, At: m.Intn(1000)})
	}
}

// use takes names of a module, if there are some that may be taken, or it must be used.
func (m maker) use(x, from *made, must bool) {
	u := api.Use{Module: from.spec.Name, At: m.Intn(1000)}
	var open []string
	isFree := true
	for _, r := range from.spec.Rules {
		if r.Open {
			open = append(open, r.Name)
			_, is := x.used[r.Name]
			isFree = isFree && !is
		}
	}
	if len(open) == 0 || isFree && m.bool() {
		for _, name := range open {
			x.used[name] = from.own[name]
		}
		x.spec.Uses = append(x.spec.Uses, u)
		return
	}
	for range 1 + m.Intn(2) {
		n := api.Rename{Name: oneOf(m, open), As: oneOf(m, pool)}
		if _, is := x.used[n.As]; !is {
			x.used[n.As] = from.own[n.Name]
			u.Names = append(u.Names, n)
		}
	}
	if len(u.Names) == 0 && must {
		n := api.Rename{Name: open[0], As: "of_" + from.spec.Name}
		x.used[n.As] = from.own[n.Name]
		u.Names = append(u.Names, n)
	}
	if len(u.Names) > 0 {
		x.spec.Uses = append(x.spec.Uses, u)
	}
}

// rules adds own rules: extensions, and others.
func (m maker) rules(x *made, kinds []string) {
	for range m.Intn(5) {
		name := oneOf(m, pool)
		if _, is := x.own[name]; is {
			continue
		}
		h, isUsed := x.used[name]
		if !isUsed {
			h = head{m.Intn(3), oneOf(m, []string{"", "", "T"}), m.Intn(4) == 0}
		}
		x.own[name] = h
		x.spec.Rules = append(x.spec.Rules, api.RuleLine{Name: name, Open: isUsed || m.Intn(3) > 0, Inline: h.inline, Type: h.kind, At: m.Intn(1000)})
	}
	known := slices.Concat(kinds, []string{"error"})
	for _, names := range []map[string]head{x.own, x.used} {
		for name := range names {
			known = append(known, name)
		}
	}
	slices.Sort(known)
	free := slices.DeleteFunc(append([]string{"p", "q"}, pool...), func(word string) bool {
		_, isOwn := x.own[word]
		_, isUsed := x.used[word]
		return isOwn || isUsed || slices.Contains(kinds, word)
	})
	for i := range x.spec.Rules {
		m.body(&x.spec.Rules[i], x, known, free)
	}
}

// body gives a rule its parameters and alternatives.
func (m maker) body(r *api.RuleLine, x *made, known, free []string) {
	for range x.own[r.Name].params {
		r.Params = append(r.Params, oneOf(m, free))
	}
	known = slices.Concat(known, r.Params, r.Params)
	for range 1 + m.Intn(3) {
		a := api.Alt{At: m.Intn(1000), Prec: oneOf(m, append(pool, "", ""))}
		for range m.Intn(4) {
			a.Syms = append(a.Syms, m.ref(known, 3))
		}
		if len(a.Syms) > 0 {
			a.Act = oneOf(m, []api.Act{{}, {Kind: api.ActPick}, {Kind: api.ActNode, Name: "N", Kids: []api.Act{{Kind: api.ActPick}, {Kind: api.ActText, Name: "t"}}}})
		}
		r.Alts = append(r.Alts, a)
	}
}

func (m maker) ref(known []string, levels int) api.Ref {
	r := api.Ref{Name: oneOf(m, known), At: m.Intn(1000)}
	if levels > 0 && m.Intn(3) == 0 {
		for range 1 + m.Intn(3) {
			r.Args = append(r.Args, m.ref(known, levels-1))
		}
	}
	return r
}

// parts are all values within one.
func parts(v reflect.Value) []reflect.Value {
	l := []reflect.Value{v}
	switch v.Kind() {
	case reflect.Struct:
		for i := range v.NumField() {
			l = append(l, parts(v.Field(i))...)
		}
	case reflect.Slice:
		for i := range v.Len() {
			l = append(l, parts(v.Index(i))...)
		}
	}
	return l
}

// change makes one part of a module another one: a word another word, a truth the other one, of a list an element is there twice, or no more.
func (m maker) change(s *api.Spec) {
	whole := reflect.ValueOf(s).Elem()
	v := oneOf(m, parts(whole.Field(m.Intn(whole.NumField()))))
	if len(s.Rules) > 0 && m.Intn(3) == 0 { // the heads of rules have few parts
		whole = reflect.ValueOf(&s.Rules[m.Intn(len(s.Rules))]).Elem()
		v = oneOf(m, []reflect.Value{whole.Field(0), whole.Field(1), whole.Field(2), whole.Field(3), whole.Field(4)})
	}
	switch v.Kind() {
	case reflect.String:
		v.SetString(oneOf(m, append([]string{"M", "A", "B", "C", "T", "q", "zz"}, pool...)))
	case reflect.Bool:
		v.SetBool(!v.Bool())
	case reflect.Slice:
		if v.Len() == 0 {
			return
		}
		i := m.Intn(v.Len())
		ahead, behind := v.Slice3(0, i, i), v.Slice(i, v.Len())
		if m.bool() {
			v.Set(reflect.AppendSlice(reflect.Append(ahead, v.Index(i)), behind))
		} else {
			v.Set(reflect.AppendSlice(ahead, behind.Slice(1, behind.Len())))
		}
	}
}

// wild are modules in which some parts were made other ones.
func (m maker) wild(many, changes int) []api.Spec {
	l := m.tidy(many)
	for range changes {
		m.change(&l[m.Intn(many)])
	}
	return l
}

func TestTidyModules(t *testing.T) {
	m := newMaker(101)
	uses, extensions, renamed, params := 0, 0, 0, 0
	for range 3000 {
		l := m.tidy(1 + m.Intn(5))
		s, d := likeWords(t, "M", l...)
		if len(d) > 0 {
			t.Fatal(d, texts(l))
		}
		order, _ := compose.Order("M", l...)
		rules, before := 0, map[string]struct{}{}
		for _, x := range l {
			if slices.Contains(order, x.Name) {
				rules += len(x.Rules)
				for _, r := range x.Rules {
					before[r.Name] = struct{}{}
					for _, p := range r.Params {
						before[p] = struct{}{}
					}
				}
			}
		}
		uses += len(order) - 1
		extensions += rules - len(s.Rules)
		for _, r := range s.Rules {
			if _, is := before[r.Name]; !is {
				renamed++
			}
			for _, p := range r.Params {
				if _, is := before[p]; !is {
					params++
				}
			}
		}
	}
	if uses < 1000 || extensions < 500 || renamed < 500 || params < 100 {
		t.Error("too few:", uses, extensions, renamed, params)
	}
}

func TestWildModules(t *testing.T) {
	m := newMaker(102)
	met := map[api.Errno]int{}
	for range 6000 {
		l := m.wild(1+m.Intn(5), 1+m.Intn(4))
		_, d := likeWords(t, "M", l...)
		for _, x := range d {
			met[x.Why]++
		}
		if len(d) == 0 {
			met[api.OK]++
		}
	}
	for _, why := range errnos {
		if met[why] < 100 && why != api.ErrItems && why != api.ErrRing {
			t.Error("too few:", why, met[why])
		}
	}
	if met[api.OK] < 500 {
		t.Error("too few:", met[api.OK])
	}
}

// Modules of which any may be the main one, and any is used by any.
func TestModulesInAnyOrder(t *testing.T) {
	m := newMaker(103)
	rings := 0
	for range 1500 {
		l := m.wild(2+m.Intn(4), m.Intn(2))
		for i := range l {
			for j := range l[i].Uses {
				if m.Intn(4) == 0 {
					l[i].Uses[j].Module = oneOf(m, l).Name
				}
			}
		}
		m.Shuffle(len(l), func(i, j int) { l[i], l[j] = l[j], l[i] })
		_, d := likeWords(t, oneOf(m, append(namesOf(l), "Z")), l...)
		if slices.ContainsFunc(d, func(x api.Diag) bool { return x.Why == api.ErrRing }) {
			rings++
		}
	}
	if rings < 100 {
		t.Error("too few:", rings)
	}
}

// Few words for everything: most of it is wrong in several ways.
func TestModulesOfFewWords(t *testing.T) {
	m := newMaker(104)
	few := []string{"M", "A", "r", "x"}
	word := func() string { return oneOf(m, few) }
	for range 4000 {
		var l []api.Spec
		for _, name := range few[:2] {
			s := api.Spec{Name: name}
			for range m.Intn(3) {
				u := api.Use{Module: few[1], At: m.Intn(99)}
				for range m.Intn(3) {
					u.Names = append(u.Names, api.Rename{Name: word(), As: word()})
				}
				if name == "M" {
					s.Uses = append(s.Uses, u)
				}
			}
			for range m.Intn(4) {
				r := api.RuleLine{Name: word(), Open: m.bool(), Inline: m.Intn(4) == 0, At: m.Intn(99)}
				for range m.Intn(2) {
					r.Params = append(r.Params, word())
				}
				for range 1 + m.Intn(2) {
					a := api.Alt{At: m.Intn(99)}
					for range m.Intn(3) {
						a.Syms = append(a.Syms, m.ref(few, 1))
					}
					r.Alts = append(r.Alts, a)
				}
				s.Rules = append(s.Rules, r)
			}
			if m.Intn(3) == 0 {
				s.Lex = []api.LexLine{{Mode: "main", Name: word(), Re: api.Regex{Kind: api.ReEmpty}, At: m.Intn(99)}}
			}
			for range m.Intn(2) {
				s.Starts = append(s.Starts, word())
			}
			if !spec.Right(s) {
				t.Fatal("the test is wrong")
			}
			l = append(l, s)
		}
		likeWords(t, "M", l...)
	}
}
