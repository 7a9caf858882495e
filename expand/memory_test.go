package expand_test

import (
	"reflect"
	"slices"
	"strings"
	"testing"

	"quoin/api"
	"quoin/expand"
)

// DOC.md's R4: what is handed in is not changed and not kept, what is answered is new memory. R1: no call panics, whatever it is given. R3: beside an error nothing is told. R5: same arguments, same answers.

// roomy is a value in memory of its own, with room behind each list in which marks stand.
func roomy[T any](x T) T { return copied(reflect.ValueOf(x), true).Interface().(T) }

// clone is a value in memory of its own.
func clone[T any](x T) T { return copied(reflect.ValueOf(x), false).Interface().(T) }

func copied(v reflect.Value, isRoomy bool) reflect.Value {
	made := reflect.New(v.Type()).Elem()
	switch v.Kind() {
	case reflect.Struct:
		for i := range v.NumField() {
			made.Field(i).Set(copied(v.Field(i), isRoomy))
		}
	case reflect.Slice:
		for i := range v.Len() {
			made = reflect.Append(made, copied(v.Index(i), isRoomy))
		}
		if isRoomy {
			mark := reflect.New(v.Type().Elem()).Elem()
			spoil(mark)
			made = reflect.Append(made, mark, mark).Slice(0, v.Len())
		}
	default:
		made.Set(v)
	}
	return made
}

// spoil overwrites a value, its lists, and the room behind them.
func spoil(v reflect.Value) {
	switch v.Kind() {
	case reflect.Struct:
		for i := range v.NumField() {
			spoil(v.Field(i))
		}
	case reflect.Slice:
		l := v.Slice(0, v.Cap())
		for i := range l.Len() {
			spoil(l.Index(i))
		}
	case reflect.String:
		v.SetString("spoilt")
	case reflect.Bool:
		v.SetBool(!v.Bool())
	default:
		v.SetInt(-77)
	}
}

// all is all that stands in a value, in the room behind its lists, too.
func all(x any) string { return told(room(reflect.ValueOf(x)).Interface()) }

// room is a value with the room behind its lists as parts of them.
func room(v reflect.Value) reflect.Value {
	made := reflect.New(v.Type()).Elem()
	switch v.Kind() {
	case reflect.Struct:
		for i := range v.NumField() {
			made.Field(i).Set(room(v.Field(i)))
		}
	case reflect.Slice:
		l := v.Slice(0, v.Cap())
		for i := range l.Len() {
			made = reflect.Append(made, room(l.Index(i)))
		}
	default:
		made.Set(v)
	}
	return made
}

// span is the memory of a list, with the room behind it.
type span struct{ from, to uintptr }

// spans are those of all lists of a value.
func spans(v reflect.Value) []span {
	var l []span
	switch v.Kind() {
	case reflect.Struct:
		for i := range v.NumField() {
			l = append(l, spans(v.Field(i))...)
		}
	case reflect.Slice:
		if v.Cap() > 0 {
			l = append(l, span{v.Pointer(), v.Pointer() + uintptr(v.Cap())*v.Type().Elem().Size()})
		}
		for i := range v.Cap() {
			l = append(l, spans(v.Slice(0, v.Cap()).Index(i))...)
		}
	}
	return l
}

// apart tells whether no two lists of values share memory.
func apart(l ...any) bool {
	var s []span
	for _, x := range l {
		s = append(s, spans(reflect.ValueOf(x))...)
	}
	slices.SortFunc(s, func(a, b span) int { return int(a.from) - int(b.from) })
	for i := 1; i < len(s); i++ {
		if s[i].from < s[i-1].to {
			return false
		}
	}
	return true
}

// shares tells whether some list of a value has memory in common with one of another value.
func shares(a, b any) bool {
	for _, x := range spans(reflect.ValueOf(a)) {
		for _, y := range spans(reflect.ValueOf(b)) {
			if x.from < y.to && y.from < x.to {
				return true
			}
		}
	}
	return false
}

func TestApart(t *testing.T) {
	l := []string{"a", "b"}
	if apart(api.Spec{Starts: l}, api.Spec{Starts: l[1:]}) || apart(api.Spec{Starts: l[:1]}, l[1:]) || !apart(l, []string{"a"}) || !shares(l, api.Spec{Starts: l[1:]}) || shares(l, []string{"a"}) {
		t.Fatal("the test is wrong")
	}
}

func TestArguments(t *testing.T) {
	m := newMaker(401)
	grammars := 0
	for n := range 1500 {
		s := roomy(m.wild(n % 3))
		kept := all(s)
		g, types, d := expand.Grammar(s, "s")
		again, typesAgain, dAgain := expand.Grammar(s, "s")
		check, kinds, cleared := expand.Check(s, "s"), expand.Kinds(s), expand.Clear(s)
		if all(s) != kept {
			t.Fatal("an argument is changed")
		}
		if !apart(s, g, types, d, again, typesAgain, dAgain, check, kinds, cleared) {
			t.Fatal("an answer shares memory")
		}
		want := told(g) + told(types) + told(d)
		spoil(reflect.ValueOf(&again).Elem())
		spoil(reflect.ValueOf(&typesAgain).Elem())
		spoil(reflect.ValueOf(&dAgain).Elem())
		again, typesAgain, dAgain = expand.Grammar(clone(s), "s")
		if told(again)+told(typesAgain)+told(dAgain) != want {
			t.Fatal("other answers of the same")
		}
		want += told(check) + told(kinds) + told(cleared)
		spoil(reflect.ValueOf(&s).Elem())
		if told(g)+told(types)+told(d)+told(check)+told(kinds)+told(cleared) != want {
			t.Fatal("what is told hangs on what was handed in")
		}
		if len(g.Prods) > 0 {
			grammars++
		}
	}
	if grammars < 500 {
		t.Error("too few:", grammars)
	}
}

func TestActArguments(t *testing.T) {
	m := newMaker(402)
	for range 3000 {
		kids := roomy([]api.Act{m.act(5, 3, 3), m.act(5, 3, 3), none})
		a := roomy(node("N", m.act(3, 3, 3), pick(0), pick(1), pick(0), m.act(3, 3, 3)))
		kept := all(a) + all(kids)
		made, e := expand.Act(a, kids...)
		again, eAgain := expand.Act(a, kids...)
		if all(a)+all(kids) != kept {
			t.Fatal("an argument is changed")
		}
		if !apart(a, kids, made, again) || told(made) != told(again) || e != eAgain {
			t.Fatal("an answer shares memory", e)
		}
		want := told(made)
		spoil(reflect.ValueOf(&a).Elem())
		spoil(reflect.ValueOf(&kids).Elem())
		spoil(reflect.ValueOf(&again).Elem())
		if told(made) != want {
			t.Fatal("what is told hangs on what was handed in")
		}
	}
}

// Lists that are handed in may share memory with each other: those that come do not.
func TestSharedLists(t *testing.T) {
	words := []string{"x", "y", "z"}
	refs := []api.Ref{{Name: "A"}, {Name: "error"}}
	kids := []api.Act{pick(0), text("t")}
	act := node("N", node("M", kids...), node("M", kids[:1]...), pick(1))
	alts := []api.Alt{{Syms: refs, Act: act}, {Syms: refs, Act: act}, {Syms: []api.Ref{{Name: "i"}, {Name: "p", Args: append(refs, refs[0])}}, Act: act}}
	lex := []api.LexLine{{Mode: "main", Name: "A", Re: api.Regex{Kind: api.ReSet, Set: []api.Range{{Lo: 'a', Hi: 'b'}}}}}
	s := api.Spec{Name: "M", Lex: append(lex, lex[0]), Starts: words, Precs: []api.PrecLine{{Assoc: api.AssocNot, Names: words}, {Assoc: api.AssocNot, Names: words[1:]}},
		Datas: []api.DataLine{{Data: api.Data{Name: "T", Ctors: []api.Ctor{{Name: "C", Fields: words}, {Name: "D", Fields: words[:1]}}}}},
		Rules: []api.RuleLine{{Name: "s", Alts: alts}, {Name: "i", Inline: true, Alts: alts[:2]}, {Name: "p", Params: words, Alts: alts}}}
	kept := told(s)
	g, types, d := likeWords(t, s, "s")
	cleared := expand.Clear(s)
	if len(d) > 0 || len(g.Prods) != 8 || !apart(g, types, cleared) || shares(s, g) || shares(s, cleared) || told(s) != kept {
		t.Error(lines(g), d)
	}
	one := []api.Act{node("K", kids...)}
	made, e := expand.Act(node("N", pick(0), pick(0), act, one[0]), one[0], text("t"))
	if e != api.OK || !apart(made) || shares(made, act) || shares(made, one) {
		t.Error(told(made), e)
	}
}

// Lists that are empty may be nil: it is the same.
func TestEmptyLists(t *testing.T) {
	full := api.Spec{Name: "M", Uses: []api.Use{}, Lex: []api.LexLine{}, Precs: []api.PrecLine{}, Datas: []api.DataLine{}, Starts: []string{},
		Rules: []api.RuleLine{{Name: "s", Params: []string{}, Alts: []api.Alt{{Syms: []api.Ref{{Name: "s", Args: []api.Ref{}}}, Act: api.Act{Kids: []api.Act{}}}, {Syms: []api.Ref{}}}}}}
	none := api.Spec{Name: "M", Rules: []api.RuleLine{{Name: "s", Alts: []api.Alt{{Syms: []api.Ref{{Name: "s"}}}, {}}}}}
	if grown(full, "s") != grown(none, "s") || told(expand.Clear(full)) != told(expand.Clear(none)) {
		t.Error("empty lists and none are not the same")
	}
	likeWords(t, full, "s")
	if made, e := expand.Act(api.Act{Kind: api.ActNode, Kids: []api.Act{}}, []api.Act{}...); e != api.OK || made.Kind != api.ActNode {
		t.Error(made, e)
	}
}

// Trees without sense, trees that are as deep as any may be, and rings of lists are told to be none.
func TestAnyTree(t *testing.T) {
	m := newMaker(403)
	for range 1500 {
		s := m.tidy()
		for range 1 + m.Intn(3) {
			v := oneOf(m, parts(reflect.ValueOf(&s).Elem()))
			switch v.Kind() {
			case reflect.Int:
				v.SetInt(int64(oneOf(m, []int{-1 << 63, -1, 0, 1, 99, 1<<63 - 1})))
			case reflect.String:
				v.SetString(oneOf(m, []string{"", "_", "rule", "\x00", "\xff\xfe", "é", "a b", strings.Repeat("w", 40)}))
			default:
				v.SetZero()
			}
		}
		likeWords(t, s, oneOf(m, []string{"s", "", "_"}))
		expand.Clear(s)
	}
	deep := api.Ref{Name: "r"}
	for range 1 << 15 {
		deep = api.Ref{Name: "r", Args: []api.Ref{deep}}
	}
	ring := []api.Ref{{Name: "r"}, {Name: "r"}}
	ring[0].Args, ring[1].Args = ring, ring
	for _, x := range []api.Ref{deep, ring[1]} {
		s := api.Spec{Name: "M", Rules: []api.RuleLine{{Name: "r", Inline: true, Alts: []api.Alt{{Syms: []api.Ref{x}}}}}}
		want := []api.Diag{{Module: "M", Why: api.ErrArg}}
		if g, types, d := expand.Grammar(s, "r"); len(g.Kinds) > 0 || types != nil || !slices.Equal(d, want) || !slices.Equal(expand.Check(s, "r"), want) {
			t.Error(d)
		}
		if l := expand.Kinds(s); len(l) != 2 {
			t.Error(l)
		}
	}
	s := api.Spec{Name: "M", Rules: []api.RuleLine{{Name: "r", Inline: true, Alts: []api.Alt{{Syms: []api.Ref{deep}}}}}}
	if made := expand.Clear(s); made.Rules[0].Inline || len(made.Rules[0].Alts[0].Syms[0].Args) != 1 {
		t.Error(made.Name)
	}
}

// Places may be any numbers; they are told as they are.
func TestAnyPlaces(t *testing.T) {
	for _, at := range []int{-1 << 63, -1, 0, 1<<63 - 1} {
		s := api.Spec{Name: "M", Rules: []api.RuleLine{{Name: "s", Params: []string{"s"}, At: at, Alts: []api.Alt{{Syms: []api.Ref{{Name: "q", At: at}}, Prec: "u", At: at}}}}}
		want := []api.Diag{{Module: "M", Why: api.ErrThere, At: at}, {Module: "M", Why: api.ErrUnknown, At: at}, {Module: "M", Why: api.ErrUnknown, At: at}, {Module: "M", Why: api.ErrSort, At: at}}
		if d := expand.Check(s, "s"); !slices.Equal(d, want) {
			t.Error(d)
		}
		s = api.Spec{Name: "M", Rules: []api.RuleLine{{Name: "s", Alts: []api.Alt{{At: 5}, {Syms: []api.Ref{{Name: "i", At: 7}}, At: at}}}, {Name: "i", Inline: true, At: 8, Alts: []api.Alt{{Syms: []api.Ref{{Name: "i", At: 9}}, At: 10}}}}}
		if _, _, d := expand.Grammar(s, "s"); !slices.Equal(d, []api.Diag{{Module: "M", Why: api.ErrInline, At: at}}) {
			t.Error(d)
		}
	}
}
