package spec_test

import (
	"math/rand"
	"reflect"
	"slices"
	"testing"

	"quoin/api"
	"quoin/spec"
)

// DOC.md's R4: what is handed in is not changed and not kept, what is answered is new memory. R1: no call panics, whatever it is given.

// roomy is a value in memory of its own, with room behind each list in which marks stand.
func roomy(v reflect.Value) reflect.Value {
	made := reflect.New(v.Type()).Elem()
	switch v.Kind() {
	case reflect.Struct:
		for i := range v.NumField() {
			made.Field(i).Set(roomy(v.Field(i)))
		}
	case reflect.Slice:
		for i := range v.Len() {
			made = reflect.Append(made, roomy(v.Index(i)))
		}
		mark := reflect.New(v.Type().Elem()).Elem()
		spoil(mark)
		made = reflect.Append(made, mark, mark)
		made = made.Slice(0, v.Len())
	default:
		made.Set(v)
	}
	return made
}

// spoil overwrites a value, its lists, and the room behind them.
func spoil(v reflect.Value) {
	switch v.Kind() {
	case reflect.Struct:
		for i := range v.NumField() {
			spoil(v.Field(i))
		}
	case reflect.Slice:
		l := v.Slice(0, v.Cap())
		for i := range l.Len() {
			spoil(l.Index(i))
		}
	case reflect.String:
		v.SetString("spoilt")
	case reflect.Bool:
		v.SetBool(!v.Bool())
	default:
		v.SetInt(-77)
	}
}

// room is a value with the room behind its lists as parts of them.
func room(v reflect.Value) reflect.Value {
	made := reflect.New(v.Type()).Elem()
	switch v.Kind() {
	case reflect.Struct:
		for i := range v.NumField() {
			made.Field(i).Set(room(v.Field(i)))
		}
	case reflect.Slice:
		l := v.Slice(0, v.Cap())
		for i := range l.Len() {
			made = reflect.Append(made, room(l.Index(i)))
		}
	default:
		made.Set(v)
	}
	return made
}

// all is all that stands in a value, in the room behind its lists, too.
func all(x any) string { return told(room(reflect.ValueOf(x)).Interface(), true) }

// span is the memory of a list, with the room behind it.
type span struct{ from, to uintptr }

// spans are those of all lists of a value.
func spans(v reflect.Value) []span {
	var l []span
	switch v.Kind() {
	case reflect.Struct:
		for i := range v.NumField() {
			l = append(l, spans(v.Field(i))...)
		}
	case reflect.Slice:
		if v.Cap() > 0 {
			l = append(l, span{v.Pointer(), v.Pointer() + uintptr(v.Cap())*v.Type().Elem().Size()})
		}
		for i := range v.Cap() {
			l = append(l, spans(v.Slice(0, v.Cap()).Index(i))...)
		}
	}
	return l
}

// apart tells whether no two lists of values share memory.
func apart(l ...any) bool {
	var s []span
	for _, x := range l {
		s = append(s, spans(reflect.ValueOf(x))...)
	}
	slices.SortFunc(s, func(a, b span) int { return int(a.from) - int(b.from) })
	for i := 1; i < len(s); i++ {
		if s[i].from < s[i-1].to {
			return false
		}
	}
	return true
}

func TestApart(t *testing.T) {
	l := []string{"a", "b"}
	if apart(api.Spec{Starts: l}, api.Spec{Starts: l[1:]}) || apart(api.Spec{Starts: l[:1]}, l[1:]) || !apart(l, []string{"a"}) {
		t.Fatal("the test is wrong")
	}
}

func TestTreesOfTextsAreNew(t *testing.T) {
	for _, s := range samples {
		a, b := parsed(t, s), parsed(t, s)
		if !apart(a, b) {
			t.Error("two answers, or two lists of one, share memory", s)
		}
		want := told(b, true)
		spoil(reflect.ValueOf(&a).Elem())
		if told(b, true) != want || told(parsed(t, s), true) != want {
			t.Error("an answer hangs on another", s)
		}
	}
}

// roomyTree is a tree with marks behind all its lists.
func roomyTree(s api.Spec) api.Spec { return roomy(reflect.ValueOf(s)).Interface().(api.Spec) }

func TestTreesHandedInAreNotChanged(t *testing.T) {
	m := maker{rand.New(rand.NewSource(84))}
	for n := range 200 {
		s, other := roomyTree(m.tree()), roomyTree(m.tree())
		if n%2 == 1 { // a wrong one
			l := partsOf(&s)
			p := l[m.Intn(len(l))]
			if p.value.Kind() == reflect.String {
				p.value.SetString("rule")
			}
		}
		modes := roomy(reflect.ValueOf(makerWords)).Interface().([]string)
		kinds := roomy(reflect.ValueOf(append([]string{"end", "error"}, makerWords...))).Interface().([]string)
		kept, keptOther, keptModes, keptKinds := all(s), all(other), all(modes), all(kinds)
		right, same := spec.Right(s), spec.Same(s, other)
		names := spec.Modes(s)
		x, e := spec.Lexer(s, modes, kinds...)
		if all(s) != kept || all(other) != keptOther || all(modes) != keptModes || all(kinds) != keptKinds {
			t.Fatal("an argument is changed")
		}
		if !apart(s, other, modes, kinds, names, x) {
			t.Fatal("an answer shares memory with an argument")
		}
		y, _ := spec.Lexer(s, modes, kinds...)
		if more := spec.Modes(s); !apart(x, y, names, more) {
			t.Fatal("two answers share memory")
		}
		want, wantModes := told(x, true), told(names, true)
		spoil(reflect.ValueOf(&y).Elem())
		if again, f := spec.Lexer(s, modes, kinds...); told(again, true) != want || f != e || told(x, true) != want {
			t.Fatal("an answer hangs on another")
		}
		if spec.Right(s) != right || spec.Same(s, other) != same {
			t.Fatal("an answer hangs on what was asked")
		}
		spoil(reflect.ValueOf(&s).Elem())
		spoil(reflect.ValueOf(&modes).Elem())
		spoil(reflect.ValueOf(&kinds).Elem())
		if told(x, true) != want || told(names, true) != wantModes {
			t.Fatal("what is told hangs on what was handed in")
		}
	}
}

// A scanner's rules share nothing, though the lines' expressions do.
func TestSharedExpressions(t *testing.T) {
	kids := []api.Regex{{Kind: api.ReSet, Set: []api.Range{{Lo: 1, Hi: 2}}}, {Kind: api.ReEmpty}}
	re := api.Regex{Kind: api.ReCat, Kids: kids}
	s := api.Spec{Lex: []api.LexLine{{Mode: "m", Re: re}, {Mode: "m", Re: re}, {Mode: "n", Re: api.Regex{Kind: api.ReStar, Kids: kids[:1]}}}}
	x, e := spec.Lexer(s, []string{"m", "n"})
	if e != api.OK || !apart(x) {
		t.Error("two lists of one answer share memory", e)
	}
	empty := api.Spec{Lex: []api.LexLine{{Mode: "m", Re: api.Regex{Set: make([]api.Range, 0, 9), Kids: make([]api.Regex, 0, 9)}}}}
	x, _ = spec.Lexer(empty, []string{"m"})
	if !apart(x, empty) {
		t.Error("the room of a list that is empty is shared")
	}
}

// Zero values and trees without sense.
func TestAnyTree(t *testing.T) {
	m := maker{rand.New(rand.NewSource(87))}
	if !spec.Same(api.Spec{}, api.Spec{}) || !slices.Equal(spec.Modes(api.Spec{}), []string{"main"}) {
		t.Error("of nothing")
	}
	for range 300 {
		s, other := m.tree(), m.tree()
		for range 5 {
			for _, p := range []*api.Spec{&s, &other} {
				l := partsOf(p)
				one := l[m.Intn(len(l))]
				all := others(one.value)
				one.value.Set(all[m.Intn(len(all))])
			}
		}
		spec.Right(s)
		sameLikeWords(t, s, other)
		spec.Modes(s)
		lexerLikeWords(t, s, makerWords[:m.Intn(len(makerWords))], makerWords...)
	}
	deep := api.Regex{}
	r, a := api.Ref{Name: "x"}, api.Act{Kind: api.ActNode, Name: "N"}
	for range 1 << 15 {
		deep = api.Regex{Kind: api.ReNot, Kids: []api.Regex{deep}}
		r = api.Ref{Name: "x", Args: []api.Ref{r}}
		a = api.Act{Kind: api.ActNode, Name: "N", Kids: []api.Act{a}}
	}
	s := api.Spec{Name: "M", Lex: []api.LexLine{{Mode: "main", Re: deep}}, Rules: []api.RuleLine{{Name: "r", Alts: []api.Alt{{Syms: []api.Ref{r}, Act: a}}}}}
	if spec.Right(s) || !spec.Same(s, s) {
		t.Error("a deep tree")
	}
	if x, e := spec.Lexer(s, []string{"main"}); e != api.OK || len(x.Modes[0]) != 1 {
		t.Error(e)
	}
}

// Any bytes are read without a panic, and told by the words.
func TestAnyBytes(t *testing.T) {
	r := rand.New(rand.NewSource(88))
	for range 20000 {
		b := make([]byte, r.Intn(40))
		for i := range b {
			b[i] = byte(r.Intn(256))
			if r.Intn(2) == 0 {
				b[i] = " ;=|()_$\"a/1\n"[r.Intn(13)]
			}
		}
		likeWords(t, string(b))
		likeWords(t, "module M;"+string(b))
		likeWords(t, "module M; rule r ="+string(b))
		likeWords(t, "module M; skip ="+string(b))
	}
}
