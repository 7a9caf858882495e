package print_test

import (
	"reflect"
	"slices"
	"testing"

	"quoin/api"
	"quoin/print"
)

// DOC.md's R4: what is handed in is not changed and not kept, what is answered is new memory. R1: no call panics, whatever it is given. R3: beside an error nothing is told. R5: same arguments, same answers.

// roomy is a value in memory of its own, with room behind each list in which marks stand.
func roomy[T any](x T) T { return roomyValue(reflect.ValueOf(x)).Interface().(T) }

func roomyValue(v reflect.Value) reflect.Value {
	made := reflect.New(v.Type()).Elem()
	switch v.Kind() {
	case reflect.Struct:
		for i := range v.NumField() {
			made.Field(i).Set(roomyValue(v.Field(i)))
		}
	case reflect.Slice:
		for i := range v.Len() {
			made = reflect.Append(made, roomyValue(v.Index(i)))
		}
		mark := reflect.New(v.Type().Elem()).Elem()
		spoil(mark)
		made = reflect.Append(made, mark, mark).Slice(0, v.Len())
	default:
		made.Set(v)
	}
	return made
}

// spoil overwrites a value, its lists, and the room behind them.
func spoil(v reflect.Value) {
	switch v.Kind() {
	case reflect.Struct:
		for i := range v.NumField() {
			spoil(v.Field(i))
		}
	case reflect.Slice:
		l := v.Slice(0, v.Cap())
		for i := range l.Len() {
			spoil(l.Index(i))
		}
	case reflect.String:
		v.SetString("spoilt")
	case reflect.Bool:
		v.SetBool(!v.Bool())
	default:
		v.SetInt(-77)
	}
}

// all is all that stands in a value, in the room behind its lists, too.
func all(x any) string { return told(room(reflect.ValueOf(x)).Interface(), true) }

// room is a value with the room behind its lists as parts of them.
func room(v reflect.Value) reflect.Value {
	made := reflect.New(v.Type()).Elem()
	switch v.Kind() {
	case reflect.Struct:
		for i := range v.NumField() {
			made.Field(i).Set(room(v.Field(i)))
		}
	case reflect.Slice:
		l := v.Slice(0, v.Cap())
		for i := range l.Len() {
			made = reflect.Append(made, room(l.Index(i)))
		}
	default:
		made.Set(v)
	}
	return made
}

// span is the memory of a list, with the room behind it.
type span struct{ from, to uintptr }

// spans are those of all lists of a value.
func spans(v reflect.Value) []span {
	var l []span
	switch v.Kind() {
	case reflect.Struct:
		for i := range v.NumField() {
			l = append(l, spans(v.Field(i))...)
		}
	case reflect.Slice:
		if v.Cap() > 0 {
			l = append(l, span{v.Pointer(), v.Pointer() + uintptr(v.Cap())*v.Type().Elem().Size()})
		}
		for i := range v.Cap() {
			l = append(l, spans(v.Slice(0, v.Cap()).Index(i))...)
		}
	}
	return l
}

// apart tells whether no two lists of values share memory.
func apart(l ...any) bool {
	var s []span
	for _, x := range l {
		s = append(s, spans(reflect.ValueOf(x))...)
	}
	slices.SortFunc(s, func(a, b span) int { return int(a.from) - int(b.from) })
	for i := 1; i < len(s); i++ {
		if s[i].from < s[i-1].to {
			return false
		}
	}
	return true
}

func TestApart(t *testing.T) {
	l := []string{"a", "b"}
	if apart(api.Spec{Starts: l}, api.Spec{Starts: l[1:]}) || apart(api.Spec{Starts: l[:1]}, l[1:]) || !apart(l, []string{"a"}) {
		t.Fatal("the test is wrong")
	}
}

// answers are all answers of a tree, a symbol and an action, as one text.
func answers(s api.Spec, r api.Ref, a api.Act, most int) string {
	form, e := print.Spec(s)
	refText, refE := print.Ref(r)
	actText, actE := print.Act(a, most)
	again, f := print.Format(form)
	return told([]string{form, refText, actText, again}, true) + told([]api.Errno{e, refE, actE, f.Why}, true) + told(print.Names(s), true)
}

func TestArguments(t *testing.T) {
	m := newMaker(910)
	for n := range 400 {
		s, r, a, most := roomy(m.tree()), roomy(m.ref(3)), roomy(m.act(3, 3)), m.Intn(6)-1
		if n%2 == 1 { // a wrong one
			l := partsOf(&s)
			if p := l[m.Intn(len(l))]; p.value.Kind() == reflect.String {
				p.value.SetString("rule")
			}
			r.Name, a.Kind = "rule", m.Intn(5)
		}
		keptS, keptR, keptA := all(s), all(r), all(a)
		want := answers(s, r, a, most)
		names, more := print.Names(s), print.Names(s)
		form, _ := print.Spec(s)
		if all(s) != keptS || all(r) != keptR || all(a) != keptA {
			t.Fatal("an argument is changed")
		}
		if !apart(s, names, more) {
			t.Fatal("an answer shares memory")
		}
		spoil(reflect.ValueOf(&more).Elem())
		if answers(clone(s), clone(r), clone(a), most) != want || answers(s, r, a, most) != want {
			t.Fatal("other answers of the same")
		}
		keptNames, keptForm := told(names, true), told(form, true)
		spoil(reflect.ValueOf(&s).Elem())
		spoil(reflect.ValueOf(&r).Elem())
		spoil(reflect.ValueOf(&a).Elem())
		if told(names, true) != keptNames || told(form, true) != keptForm {
			t.Fatal("what is told hangs on what was handed in")
		}
	}
}

// Lists that are handed in may share memory with each other.
func TestSharedLists(t *testing.T) {
	names := []string{"a", "b", "c"}
	args := refs("x", "y")
	s := api.Spec{Name: "M", Precs: []api.PrecLine{{Assoc: api.AssocNot, Names: names[:1]}, {Assoc: api.AssocNot, Names: names}}, Starts: names[1:],
		Rules: []api.RuleLine{{Name: "r", Params: names[:2], Alts: []api.Alt{{Syms: args[:1]}, {Syms: []api.Ref{ref("z", args...)}, Act: pick(0)}}}}}
	hasForm(t, s, "module M;\n\nnone a;\nnone a b c;\n\nrule r(a, b)\n\t= x => _\n\t| z(x, y)\n\t;\n\nstart b c;\n")
}

// Zero values and trees without sense.
func TestAnyTree(t *testing.T) {
	m := newMaker(911)
	if form, e := print.Spec(api.Spec{}); form != "" || e != api.ErrForm {
		t.Error(form, e)
	}
	noRef(t, api.Ref{})
	isAct(t, api.Act{}, 0, "_")
	faulty(t, "", api.ErrSpec, 0)
	hasNames(t, api.Spec{})
	for range 500 {
		s, r, a := m.tree(), m.ref(3), m.act(3, 3)
		for range 5 {
			for _, l := range [][]onePart{partsOf(&s), partsOf(&r), partsOf(&a)} {
				one := l[m.Intn(len(l))]
				all := others(one.value)
				one.value.Set(all[m.Intn(len(all))])
			}
		}
		likeWords(t, s)
		refLikeWords(t, r)
		actLikeWords(t, a, m.Intn(6)-1)
	}
}

// Trees that are as deep as any may be, and rings of lists, are told to be none.
func TestVeryDeepTrees(t *testing.T) {
	r, a := deepRef(1<<15), deepAct(1<<15, none())
	re := api.Regex{}
	for range 1 << 15 {
		re = api.Regex{Kind: api.ReNot, Kids: []api.Regex{re}}
	}
	ringRefs := refs("x", "y")
	ringRefs[0].Args, ringRefs[1].Args = ringRefs, ringRefs
	ringActs := []api.Act{node("x"), node("y")}
	ringActs[0].Kids, ringActs[1].Kids = ringActs, ringActs
	for _, x := range []api.Ref{r, ringRefs[1]} {
		if s, e := print.Ref(x); s != "" || e != api.ErrForm {
			t.Error(len(s), e)
		}
		refusedTree(t, api.Spec{Name: "M", Rules: []api.RuleLine{rule("r", api.Alt{Syms: []api.Ref{x}})}})
	}
	for _, x := range []api.Act{a, ringActs[1]} {
		if s, e := print.Act(x, 1); s != "" || e != api.ErrForm {
			t.Error(len(s), e)
		}
		refusedTree(t, api.Spec{Name: "M", Rules: []api.RuleLine{rule("r", api.Alt{Act: x})}})
	}
	s := api.Spec{Name: "M", Lex: []api.LexLine{{Mode: "main", Name: "A", Re: re}}, Rules: []api.RuleLine{rule("r", api.Alt{Syms: []api.Ref{r}, Act: a})}}
	refusedTree(t, s)
	hasNames(t, s, "A", "r")
}

// Any bytes are read without a panic, and told by the words.
func TestAnyBytes(t *testing.T) {
	m := newMaker(912)
	for range 5000 {
		b := make([]byte, m.Intn(40))
		for i := range b {
			b[i] = byte(m.Intn(256))
			if m.Intn(2) == 0 {
				b[i] = " ;=|()_$\"a/1\n"[m.Intn(13)]
			}
		}
		for _, ahead := range []string{"", "module M;", "module M;rule r=", "module M;skip="} {
			src := ahead + string(b)
			form, f := print.Format(src)
			if f.Why != parseWhy(src) || (f == api.Fault{}) != (form != "") {
				t.Fatalf("%q: %q %v", src, form, f)
			}
		}
	}
}
