package compose_test

import (
	"slices"
	"strconv"
	"testing"

	"quoin/api"
	"quoin/compose"
	"quoin/spec"
)

// D2 to D5: what follows, and DOC.md's T8.

// composed is what comes of modules with which nothing is wrong.
func composed(t testing.TB, main string, l ...api.Spec) api.Spec {
	t.Helper()
	s, d := compose.Compose(main, l...)
	if len(d) > 0 {
		t.Fatalf("%v\n%s", d, texts(l))
	}
	return s
}

// isSame holds what comes of modules against another one, places too.
func isSame(t testing.TB, got, want api.Spec, l []api.Spec) {
	t.Helper()
	if told(got) != told(want) {
		t.Fatalf("%s\nwant\n%s\nof\n%s", texts([]api.Spec{got}), texts([]api.Spec{want}), texts(l))
	}
}

// D2: what comes is right, and composed alone it is itself.
func TestComposedAgain(t *testing.T) {
	m := newMaker(201)
	for range 3000 {
		l := m.tidy(1 + m.Intn(5))
		s := composed(t, "M", l...)
		if !spec.Right(s) || len(s.Uses) > 0 {
			t.Fatal(texts([]api.Spec{s}))
		}
		for _, r := range s.Rules {
			if !r.Open {
				t.Fatal(texts([]api.Spec{s}))
			}
		}
		isSame(t, composed(t, "M", s), s, l)
		for _, r := range s.Rules {
			if name, e := compose.Name("M", "M", r.Name, s); name != r.Name || e != api.OK {
				t.Fatal(name, e, r.Name)
			}
		}
	}
}

// D2: so is any module that uses none, but that Open is true of all its rules, where these are no kinds, nor error.
func TestComposedAlone(t *testing.T) {
	m := newMaker(202)
	same := 0
	for range 3000 {
		s := m.tidy(1)[0]
		got := composed(t, "M", s)
		isOdd := func(r api.RuleLine) bool { return r.Name == "error" || slices.Contains(kinds(s), r.Name) }
		if slices.ContainsFunc(s.Rules, isOdd) {
			continue
		}
		for i := range s.Rules {
			s.Rules[i].Open = true
		}
		isSame(t, got, s, []api.Spec{s})
		same++
	}
	if same < 500 {
		t.Error("too few:", same)
	}
}

// aside is a module with its rules' and parameters' names aside: rules are told by their numbers, parameters by theirs; of Starts those alone that mean a rule of the main module.
func aside(s api.Spec, starts []bool) api.Spec {
	s = clone(s)
	number := map[string]string{}
	for i, r := range s.Rules {
		number[r.Name] = "#" + strconv.Itoa(i)
	}
	for i := range s.Rules {
		r := &s.Rules[i]
		param := map[string]string{}
		for j := len(r.Params) - 1; j >= 0; j-- {
			param[r.Params[j]] = "$" + strconv.Itoa(j)
			r.Params[j] = ""
		}
		var turn func(l []api.Ref)
		turn = func(l []api.Ref) {
			for k := range l {
				if p, is := param[l[k].Name]; is {
					l[k].Name = p
				} else if n, is := number[l[k].Name]; is {
					l[k].Name = n
				}
				turn(l[k].Args)
			}
		}
		for _, a := range r.Alts {
			turn(a.Syms)
		}
		r.Name = ""
	}
	for i, word := range s.Starts {
		s.Starts[i] = number[word]
		if !starts[i] {
			s.Starts[i] = ""
		}
	}
	return s
}

// called makes each word of a module another one where it means the own rule of that name.
func called(s api.Spec, from, to string, isMain bool) api.Spec {
	s = clone(s)
	for i := range s.Rules {
		if s.Rules[i].Name == from {
			s.Rules[i].Name = to
		}
		var turn func(l []api.Ref)
		turn = func(l []api.Ref) {
			for k := range l {
				if l[k].Name == from {
					l[k].Name = to
				}
				turn(l[k].Args)
			}
		}
		for _, a := range s.Rules[i].Alts {
			turn(a.Syms)
		}
	}
	for i, word := range s.Starts {
		if word == from && isMain {
			s.Starts[i] = to
		}
	}
	return s
}

// has tells whether a word stands anywhere in a module as a name that means something by its place.
func has(s api.Spec, word string) bool {
	is := slices.Contains(s.Starts, word)
	for _, u := range s.Uses {
		is = is || len(u.Names) == 0 || slices.ContainsFunc(u.Names, func(n api.Rename) bool { return n.As == word })
	}
	for _, r := range s.Rules {
		is = is || r.Name == word || slices.Contains(r.Params, word)
		var look func(l []api.Ref)
		look = func(l []api.Ref) {
			for _, x := range l {
				is = is || x.Name == word
				look(x.Args)
			}
		}
		for _, a := range r.Alts {
			look(a.Syms)
		}
	}
	return is
}

// D3: a private rule's name turns nothing but names.
func TestPrivateNames(t *testing.T) {
	m := newMaker(203)
	turned := 0
	for range 4000 {
		l := m.tidy(1 + m.Intn(5))
		i := m.Intn(len(l))
		if len(l[i].Rules) == 0 {
			continue
		}
		from, to := oneOf(m, l[i].Rules), oneOf(m, append(pool, "fresh", "p", "K"))
		if from.Open || has(l[i], to) {
			continue
		}
		w, _ := wordsUpTo3("M", l)
		var starts []bool
		for _, word := range w.order[0].Starts {
			starts = append(starts, w.meant(w.order[0], word) != nil)
		}
		other := slices.Clone(l)
		other[i] = called(l[i], from.Name, to, i == 0)
		a, b := composed(t, "M", l...), composed(t, "M", other...)
		if told(aside(a, starts)) != told(aside(b, starts)) {
			t.Fatalf("%s of %s is %s:\n%s\nand\n%s\nof\n%s", from.Name, l[i].Name, to, texts([]api.Spec{a}), texts([]api.Spec{b}), texts(l))
		}
		likeWords(t, "M", other...)
		turned++
	}
	if turned < 300 {
		t.Error("too few:", turned)
	}
}

// A private rule may be called as anything of another module.
func TestPrivateNamesByHand(t *testing.T) {
	const m = `module M; use L (p as q); rule r(x) = q x; rule s = r(s);`
	want, _ := parsed(t, `module M; token A = "a"; open rule r(x) = p x; open rule s = r(s); open rule p = t_; open rule t_ = ; open rule t = t p;`)
	for name, comes := range map[string]string{"t": "t", "q": "q", "r": "r_2", "s": "s_2", "x": "x", "A": "A_2", "error": "error_2", "r_2": "r_2", "M": "M", long: long} {
		l, _ := parsed(t, m, `module L; token A = "a"; open rule p = t_; rule t_ = ; rule `+name+` = `+name+` p;`)
		s := composed(t, "M", l...)
		if !spec.Same(aside(s, nil), aside(want[0], nil)) || s.Rules[4].Name != comes {
			t.Error(name, texts([]api.Spec{s}))
		}
		likeWords(t, "M", l...)
	}
}

// everything is all answers of modules, as one text.
func everything(main string, l ...api.Spec) string {
	s, d := compose.Compose(main, l...)
	order, wrong := compose.Order(main, l...)
	text := told(s) + told(d) + told(order) + told(wrong) + told(compose.Check(main, l...))
	for _, x := range [][2]string{{"M", "a"}, {"M", "s"}, {"A", "a"}, {"B", "x"}} {
		name, e := compose.Name(main, x[0], x[1], l...)
		text += told(name) + told(e)
	}
	return text
}

// D4: the order in which modules are handed in does not matter.
func TestModulesHandedInOtherwise(t *testing.T) {
	m := newMaker(204)
	wrongs := 0
	for n := range 1200 {
		l := m.tidy(2 + m.Intn(4))
		if n%2 == 0 {
			m.change(&l[m.Intn(len(l))])
			names := namesOf(l)
			slices.Sort(names)
			if len(slices.Compact(names)) < len(l) || slices.ContainsFunc(l, func(s api.Spec) bool { return !spec.Right(s) }) {
				continue
			}
			if len(compose.Check("M", l...)) > 0 {
				wrongs++
			}
		}
		want := everything("M", l...)
		for range 4 {
			m.Shuffle(len(l), func(i, j int) { l[i], l[j] = l[j], l[i] })
			if everything("M", l...) != want {
				t.Fatal(texts(l))
			}
		}
	}
	if wrongs < 100 {
		t.Error("too few:", wrongs)
	}
}

// D5: a module that is not used turns nothing, whatever it has, and whatever is wrong with its names.
func TestModulesThatAreNotUsed(t *testing.T) {
	m := newMaker(205)
	for n := range 2000 {
		l := m.tidy(1 + m.Intn(4))
		if n%2 == 0 {
			m.change(&l[m.Intn(len(l))])
		}
		more := m.wild(1, m.Intn(4))[0]
		more.Name = "Zz"
		if !spec.Right(more) {
			continue
		}
		more.Uses = append(more.Uses, api.Use{Module: oneOf(m, []string{"M", "A", "Zz", "Y"})})
		if want := everything("M", l...); everything("M", append(l, more)...) != want || everything("M", append([]api.Spec{more}, l...)...) != want {
			t.Fatal(texts(l), texts([]api.Spec{more}))
		}
	}
}

// T8: what a module is does not hang on how it is cut: some of its rules, with all that they lead to, in another module, the last alternatives of some as extensions.
func TestCutModules(t *testing.T) {
	m := newMaker(206)
	cuts, extended := 0, 0
	for range 3000 {
		s := composed(t, "M", m.tidy(1+m.Intn(4))...)
		if len(s.Rules) < 2 {
			continue
		}
		other := api.Spec{Name: "Zz", Lex: s.Lex[len(s.Lex)/2:]}
		main := clone(s)
		main.Uses = []api.Use{{Module: "Zz"}}
		main.Lex, main.Rules = s.Lex[:len(s.Lex)/2], nil
		var tails []api.RuleLine
		leads := reached(s, m.Intn(len(s.Rules)))
		want := clone(s)
		want.Rules = nil
		for i, r := range s.Rules {
			if !leads[i] {
				main.Rules = append(main.Rules, r)
				want.Rules = append(want.Rules, r)
			}
		}
		for i, r := range s.Rules {
			if leads[i] {
				first, rest := m.cut(r)
				other.Rules = append(other.Rules, first)
				tails = append(tails, rest...)
				want.Rules = append(want.Rules, r)
			}
		}
		extended += len(tails)
		main.Rules = append(main.Rules, tails...)
		isSame(t, composed(t, "M", other, main), want, []api.Spec{main, other})
		cuts++
	}
	if cuts < 500 || extended < 300 {
		t.Error("too few:", cuts, extended)
	}
}

// reached are the rules, by number, to which one leads, and itself.
func reached(s api.Spec, from int) []bool {
	is := make([]bool, len(s.Rules))
	var reach func(i int)
	reach = func(i int) {
		if is[i] {
			return
		}
		is[i] = true
		var look func(l []api.Ref)
		look = func(l []api.Ref) {
			for _, x := range l {
				if j := slices.IndexFunc(s.Rules, func(r api.RuleLine) bool { return r.Name == x.Name }); j >= 0 {
					reach(j)
				}
				look(x.Args)
			}
		}
		for _, a := range s.Rules[i].Alts {
			look(a.Syms)
		}
	}
	reach(from)
	return is
}

// cut is a rule's first alternatives, and the others, if there are any, as an extension with parameters of its own.
func (m maker) cut(r api.RuleLine) (api.RuleLine, []api.RuleLine) {
	if len(r.Alts) < 2 || m.Intn(3) == 0 {
		return r, nil
	}
	if n := slices.Clone(r.Params); slices.Contains(n, "error") || len(n) == 2 && n[0] == n[1] {
		return r, nil // the one hides the symbol, the other one a parameter
	}
	at := 1 + m.Intn(len(r.Alts)-1)
	first, rest := clone(r), clone(r)
	first.Alts, rest.Alts = first.Alts[:at], rest.Alts[at:]
	for j := range rest.Params {
		rest = called(api.Spec{Rules: []api.RuleLine{rest}}, rest.Params[j], "zz_"+strconv.Itoa(j), false).Rules[0]
		rest.Params[j] = "zz_" + strconv.Itoa(j)
	}
	return first, []api.RuleLine{rest}
}
