package expand_test

import (
	"math/rand"
	"reflect"
	"slices"
	"testing"

	"quoin/api"
	"quoin/spec"
)

// Modules at random, held against the words.

// maker makes modules and actions at random.
type maker struct{ *rand.Rand }

func newMaker(seed int64) maker { return maker{rand.New(rand.NewSource(seed))} }

func (m maker) bool() bool { return m.Intn(2) == 0 }

// oneOf is one of a list.
func oneOf[T any](m maker, l []T) T { return l[m.Intn(len(l))] }

// act is an action with picks below picks (none, if that is 0), so many levels and kids at the most.
func (m maker) act(picks, levels, kids int) api.Act {
	switch n := m.Intn(6); {
	case n == 0:
		return none
	case n == 1:
		return text(oneOf(m, []string{"", "t", "\xff"}))
	case n < 4 && picks > 0:
		return pick(m.Intn(picks))
	}
	a := node(oneOf(m, []string{"N", "C", "D"}))
	if levels > 0 && kids > 0 {
		for range m.Intn(kids + 1) {
			a.Kids = append(a.Kids, m.act(picks, levels-1, kids))
		}
	}
	return a
}

var lexNames = []string{"A", "B", "C", "", "A", "error", "end"}

// tidy is a module in which nothing is wrong with names and symbols; its rules are s, r0, r1, .., some of them inlined.
func (m maker) tidy() api.Spec {
	s := api.Spec{Name: "M"}
	for range 1 + m.Intn(5) {
		s.Lex = append(s.Lex, api.LexLine{Mode: "main", Name: oneOf(m, lexNames), Re: api.Regex{Kind: api.ReEmpty}, At: m.Intn(1000)})
	}
	for range m.Intn(4) {
		s.Precs = append(s.Precs, api.PrecLine{Assoc: api.AssocLeft + m.Intn(3), Names: []string{oneOf(m, []string{"A", "B", "L"}), oneOf(m, []string{"A", "C", "error", "end", "r0"})}, At: m.Intn(1000)})
	}
	s.Rules = append(s.Rules, api.RuleLine{Name: "s"})
	for i := range m.Intn(6) {
		r := api.RuleLine{Name: "r" + string(rune('0'+i)), Inline: m.Intn(3) == 0, Open: m.bool(), Type: oneOf(m, []string{"", "T", "U"})}
		r.Params = []string{"x", "y", "z", "w"}[:oneOf(m, []int{0, 0, 1, 1, 2, 4})]
		s.Rules = append(s.Rules, r)
	}
	m.Shuffle(len(s.Rules), func(i, j int) { s.Rules[i], s.Rules[j] = s.Rules[j], s.Rules[i] })
	for i := range s.Rules {
		m.body(s, &s.Rules[i])
	}
	return s
}

// body gives a rule its alternatives; symbols are parameters, kinds, and rules with arguments of the same.
func (m maker) body(s api.Spec, r *api.RuleLine) {
	r.At = m.Intn(1000)
	kinds := wordKinds(s)[1:]
	for range 1 + m.Intn(3) {
		a := api.Alt{At: m.Intn(1000)}
		for range m.Intn(5) {
			a.Syms = append(a.Syms, m.ref(s, kinds, r.Params, 2))
		}
		if len(s.Precs) > 0 && m.Intn(4) == 0 {
			a.Prec = oneOf(m, oneOf(m, s.Precs).Names)
		}
		a.Act = m.act(len(a.Syms), 2, 5)
		r.Alts = append(r.Alts, a)
	}
}

func (m maker) ref(s api.Spec, kinds, params []string, levels int) api.Ref {
	x := api.Ref{At: m.Intn(1000)}
	rule := oneOf(m, s.Rules)
	switch n := m.Intn(5); {
	case n < 2 && len(params) > 0:
		x.Name = oneOf(m, params)
	case n < 3 || levels == 0 && len(rule.Params) > 0:
		x.Name = oneOf(m, kinds)
	default:
		x.Name = rule.Name
		for range rule.Params {
			x.Args = append(x.Args, m.ref(s, kinds, params, levels-1))
		}
	}
	return x
}

// parts are all values within one.
func parts(v reflect.Value) []reflect.Value {
	l := []reflect.Value{v}
	switch v.Kind() {
	case reflect.Struct:
		for i := range v.NumField() {
			l = append(l, parts(v.Field(i))...)
		}
	case reflect.Slice:
		for i := range v.Len() {
			l = append(l, parts(v.Index(i))...)
		}
	}
	return l
}

// change makes one part of a module another one: a word another word, a truth the other one, of a list an element is there twice, or no more.
func (m maker) change(s *api.Spec) {
	whole := reflect.ValueOf(s).Elem()
	v := oneOf(m, parts(whole.Field(oneOf(m, []int{0, 2, 3, 5, 5, 5, 5, 5}))))
	switch v.Kind() {
	case reflect.String:
		v.SetString(oneOf(m, []string{"s", "r0", "r1", "r2", "x", "y", "A", "B", "error", "end", "L", "zz", ""}))
	case reflect.Bool:
		v.SetBool(!v.Bool())
	case reflect.Slice:
		if v.Len() == 0 {
			return
		}
		i := m.Intn(v.Len())
		ahead, behind := v.Slice3(0, i, i), v.Slice(i, v.Len())
		if m.bool() {
			v.Set(reflect.AppendSlice(reflect.Append(ahead, v.Index(i)), behind))
		} else {
			v.Set(reflect.AppendSlice(ahead, behind.Slice(1, behind.Len())))
		}
	}
}

// wild is a module in which some parts were made other ones.
func (m maker) wild(changes int) api.Spec {
	s := m.tidy()
	for range changes {
		m.change(&s)
	}
	return s
}

func TestTidyModules(t *testing.T) {
	m := newMaker(101)
	met := map[api.Errno]int{}
	instances, inlined, moved := 0, 0, 0
	for range 3000 {
		s := m.tidy()
		g, _, d := likeWords(t, s, "s")
		for _, x := range d {
			met[x.Why]++
		}
		if len(d) > 0 {
			continue
		}
		met[api.OK]++
		if slices.ContainsFunc(g.Rules, func(r string) bool { return len(r) > 5 }) {
			instances++
		}
		if slices.ContainsFunc(g.Prods, func(p api.Prod) bool { return len(p.Right) > 4 }) {
			inlined++
		}
		if slices.ContainsFunc(g.Prods, func(p api.Prod) bool { return wordParts(p.Act) > 16 }) {
			moved++
		}
	}
	if met[api.OK] < 2000 || met[api.ErrEndless] < 100 || met[api.ErrInline] < 100 || met[api.ErrUnknown] > 0 || instances < 300 || inlined < 200 || moved < 50 {
		t.Error("too few:", met, instances, inlined, moved)
	}
}

func TestWildModules(t *testing.T) {
	m := newMaker(102)
	met := map[api.Errno]int{}
	for range 5000 {
		s := m.wild(1 + m.Intn(4))
		_, _, d := likeWords(t, s, oneOf(m, []string{"s", "s", "s", "r0", "x", "A", "error"}))
		for _, x := range d {
			met[x.Why]++
		}
		if len(d) == 0 {
			met[api.OK]++
		}
	}
	for _, why := range []api.Errno{api.OK, api.ErrArg, api.ErrNone, api.ErrThere, api.ErrSort, api.ErrUnknown} {
		if met[why] < 100 {
			t.Error("too few:", why, met[why])
		}
	}
}

// Few words for everything: most of it is wrong in several ways.
func TestModulesOfFewWords(t *testing.T) {
	m := newMaker(103)
	few := []string{"s", "A", "x", "end", "error"}
	word := func() string { return oneOf(m, few) }
	var ref func(levels int) api.Ref
	ref = func(levels int) api.Ref {
		x := api.Ref{Name: word(), At: m.Intn(99)}
		if levels > 0 && m.Intn(3) == 0 {
			for range 1 + m.Intn(2) {
				x.Args = append(x.Args, ref(levels-1))
			}
		}
		return x
	}
	for range 6000 {
		s := api.Spec{Name: "M"}
		for range m.Intn(3) {
			s.Lex = append(s.Lex, api.LexLine{Mode: "main", Name: oneOf(m, append([]string{""}, few...)), Re: api.Regex{Kind: api.ReEmpty}})
		}
		for range m.Intn(2) {
			s.Precs = append(s.Precs, api.PrecLine{Assoc: api.AssocNot, Names: []string{word()}})
		}
		for range 1 + m.Intn(3) {
			r := api.RuleLine{Name: word(), Inline: m.Intn(4) == 0, At: m.Intn(99)}
			for range m.Intn(3) {
				r.Params = append(r.Params, word())
			}
			for range 1 + m.Intn(2) {
				a := api.Alt{At: m.Intn(99), Prec: oneOf(m, append([]string{"", ""}, few...))}
				for range m.Intn(3) {
					a.Syms = append(a.Syms, ref(2))
				}
				r.Alts = append(r.Alts, a)
			}
			s.Rules = append(s.Rules, r)
		}
		if !spec.Right(s) {
			t.Fatal("the test is wrong")
		}
		likeWords(t, s, word())
	}
}

// Inlined rules with several alternatives that lead to one another, in few words: many choices, and rings.
func TestChoicesAtRandom(t *testing.T) {
	m := newMaker(104)
	met := map[api.Errno]int{}
	for range 1000 {
		s := api.Spec{Name: "M", Lex: []api.LexLine{{Mode: "main", Name: "A", Re: api.Regex{Kind: api.ReEmpty}}, {Mode: "main", Name: "B", Re: api.Regex{Kind: api.ReEmpty}}}}
		names := []string{"s", "i", "j", "k", "l"}
		for n, name := range names {
			r := api.RuleLine{Name: name, Inline: n > 0, At: m.Intn(99)}
			known := append([]string{"A", "B", "s", "A"}, names[n+1:]...)
			known = append(known, names[n+1:]...)
			if m.Intn(12) == 0 {
				known = append(known, names[1:]...)
			}
			for range 1 + m.Intn(3) {
				a := api.Alt{At: m.Intn(99)}
				for range m.Intn(4) {
					a.Syms = append(a.Syms, api.Ref{Name: oneOf(m, known), At: m.Intn(99)})
				}
				a.Act = m.act(len(a.Syms), 2, 8)
				r.Alts = append(r.Alts, a)
			}
			s.Rules = append(s.Rules, r)
		}
		_, _, d := likeWords(t, s, "s")
		met[append(d, api.Diag{})[0].Why]++
	}
	if met[api.OK] < 500 || met[api.ErrInline] < 40 || met[api.ErrAction] < 10 || met[api.ErrProds] < 5 {
		t.Error("too few:", met)
	}
}
