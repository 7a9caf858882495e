package compose_test

import (
	"reflect"
	"slices"
	"strconv"
	"testing"

	"quoin/api"
	"quoin/compose"
)

// DOC.md's R4: what is handed in is not changed and not kept, what is answered is new memory. R1: no call panics, whatever it is given. R3: beside an error nothing is told. R5: same arguments, same answers.

// roomy is a value in memory of its own, with room behind each list in which marks stand.
func roomy[T any](x T) T { return copied(reflect.ValueOf(x), true).Interface().(T) }

// clone is a value in memory of its own.
func clone[T any](x T) T { return copied(reflect.ValueOf(x), false).Interface().(T) }

func copied(v reflect.Value, isRoomy bool) reflect.Value {
	made := reflect.New(v.Type()).Elem()
	switch v.Kind() {
	case reflect.Struct:
		for i := range v.NumField() {
			made.Field(i).Set(copied(v.Field(i), isRoomy))
		}
	case reflect.Slice:
		for i := range v.Len() {
			made = reflect.Append(made, copied(v.Index(i), isRoomy))
		}
		if isRoomy {
			mark := reflect.New(v.Type().Elem()).Elem()
			spoil(mark)
			made = reflect.Append(made, mark, mark).Slice(0, v.Len())
		}
	default:
		made.Set(v)
	}
	return made
}

// spoil overwrites a value, its lists, and the room behind them.
func spoil(v reflect.Value) {
	switch v.Kind() {
	case reflect.Struct:
		for i := range v.NumField() {
			spoil(v.Field(i))
		}
	case reflect.Slice:
		l := v.Slice(0, v.Cap())
		for i := range l.Len() {
			spoil(l.Index(i))
		}
	case reflect.String:
		v.SetString("spoilt")
	case reflect.Bool:
		v.SetBool(!v.Bool())
	default:
		v.SetInt(-77)
	}
}

// all is all that stands in a value, in the room behind its lists, too.
func all(x any) string { return told(room(reflect.ValueOf(x)).Interface()) }

// room is a value with the room behind its lists as parts of them.
func room(v reflect.Value) reflect.Value {
	made := reflect.New(v.Type()).Elem()
	switch v.Kind() {
	case reflect.Struct:
		for i := range v.NumField() {
			made.Field(i).Set(room(v.Field(i)))
		}
	case reflect.Slice:
		l := v.Slice(0, v.Cap())
		for i := range l.Len() {
			made = reflect.Append(made, room(l.Index(i)))
		}
	default:
		made.Set(v)
	}
	return made
}

// span is the memory of a list, with the room behind it.
type span struct{ from, to uintptr }

// spans are those of all lists of a value.
func spans(v reflect.Value) []span {
	var l []span
	switch v.Kind() {
	case reflect.Struct:
		for i := range v.NumField() {
			l = append(l, spans(v.Field(i))...)
		}
	case reflect.Slice:
		if v.Cap() > 0 {
			l = append(l, span{v.Pointer(), v.Pointer() + uintptr(v.Cap())*v.Type().Elem().Size()})
		}
		for i := range v.Cap() {
			l = append(l, spans(v.Slice(0, v.Cap()).Index(i))...)
		}
	}
	return l
}

// apart tells whether no two lists of values share memory.
func apart(l ...any) bool {
	var s []span
	for _, x := range l {
		s = append(s, spans(reflect.ValueOf(x))...)
	}
	slices.SortFunc(s, func(a, b span) int { return int(a.from) - int(b.from) })
	for i := 1; i < len(s); i++ {
		if s[i].from < s[i-1].to {
			return false
		}
	}
	return true
}

// shares tells whether some list of a value has memory in common with one of another value.
func shares(a, b any) bool {
	for _, x := range spans(reflect.ValueOf(a)) {
		for _, y := range spans(reflect.ValueOf(b)) {
			if x.from < y.to && y.from < x.to {
				return true
			}
		}
	}
	return false
}

func TestApart(t *testing.T) {
	l := []string{"a", "b"}
	if apart(api.Spec{Starts: l}, api.Spec{Starts: l[1:]}) || apart(api.Spec{Starts: l[:1]}, l[1:]) || !apart(l, []string{"a"}) || !shares(l, api.Spec{Starts: l[1:]}) || shares(l, []string{"a"}) {
		t.Fatal("the test is wrong")
	}
}

func TestArguments(t *testing.T) {
	m := newMaker(301)
	for n := range 1500 {
		l := roomy(m.wild(1+m.Intn(4), n%3))
		kept := all(l)
		want := everything("M", l...)
		s, d := compose.Compose("M", l...)
		again, dAgain := compose.Compose("M", l...)
		check := compose.Check("M", l...)
		order, wrong := compose.Order("M", l...)
		if all(l) != kept {
			t.Fatal("an argument is changed")
		}
		if !apart(l, s, again, d, dAgain, check, order, wrong) {
			t.Fatal("an answer shares memory")
		}
		keptS, keptD, keptOrder := told(s), told(d)+told(check)+told(wrong), told(order)
		spoil(reflect.ValueOf(&again).Elem())
		spoil(reflect.ValueOf(&dAgain).Elem())
		if everything("M", l...) != want || everything("M", clone(l)...) != want {
			t.Fatal("other answers of the same")
		}
		spoil(reflect.ValueOf(&l).Elem())
		if told(s) != keptS || told(d)+told(check)+told(wrong) != keptD || told(order) != keptOrder {
			t.Fatal("what is told hangs on what was handed in")
		}
	}
}

// Lists that are handed in may share memory with each other: those that come do not.
func TestSharedLists(t *testing.T) {
	words := []string{"x", "y", "z"}
	refs := []api.Ref{{Name: "x"}, {Name: "p"}, {Name: "A"}}
	alts := []api.Alt{{Syms: refs[:2]}, {Syms: []api.Ref{{Name: "p", Args: refs}, {Name: "p", Args: refs[1:]}}}, {Syms: refs}}
	lex := []api.LexLine{{Mode: "main", Name: "A", Re: api.Regex{Kind: api.ReSet, Set: []api.Range{{Lo: 'a', Hi: 'b'}}}}}
	datas := []api.DataLine{{Data: api.Data{Name: "T", Ctors: []api.Ctor{{Name: "C", Fields: words}, {Name: "D", Fields: words[:1]}}}}}
	l := api.Spec{Name: "L", Lex: append(lex, lex[0]), Datas: datas, Rules: []api.RuleLine{{Name: "p", Open: true, Params: words[:1], Alts: alts}, {Name: "q", Params: words, Alts: alts}}}
	m := api.Spec{Name: "M", Uses: []api.Use{{Module: "L"}}, Precs: []api.PrecLine{{Assoc: api.AssocNot, Names: words[1:]}, {Assoc: api.AssocNot, Names: words}}, Starts: words,
		Rules: []api.RuleLine{{Name: "p", Open: true, Params: words[:1], Alts: alts}, {Name: "r", Params: words, Alts: alts[:1]}}}
	kept := told([]api.Spec{l, m})
	s, _ := likeWords(t, "M", l, m)
	if len(s.Rules) != 3 || len(s.Rules[1].Alts) != 6 || !apart(s) || shares(s, []api.Spec{l, m}) || told([]api.Spec{l, m}) != kept {
		t.Error(texts([]api.Spec{s}))
	}
	// One module that is handed in twice shares all of it.
	if d := compose.Check("L", l, l); !slices.Equal(d, []api.Diag{{Module: "L", Why: api.ErrModule}}) {
		t.Error(d)
	}
}

// Lists that are empty may be nil: it is the same.
func TestEmptyLists(t *testing.T) {
	full := api.Spec{Name: "M", Uses: []api.Use{{Module: "L", Names: []api.Rename{}}}, Lex: []api.LexLine{}, Precs: []api.PrecLine{}, Datas: []api.DataLine{}, Starts: []string{},
		Rules: []api.RuleLine{{Name: "r", Params: []string{}, Alts: []api.Alt{{Syms: []api.Ref{{Name: "p", Args: []api.Ref{}}}, Act: api.Act{Kids: []api.Act{}}}}}}}
	l := api.Spec{Name: "L", Rules: []api.RuleLine{{Name: "p", Open: true, Alts: []api.Alt{{}}}}}
	none := api.Spec{Name: "M", Uses: []api.Use{{Module: "L"}}, Rules: []api.RuleLine{{Name: "r", Alts: []api.Alt{{Syms: []api.Ref{{Name: "p"}}}}}}}
	if everything("M", full, l) != everything("M", none, l) {
		t.Error("empty lists and none are not the same")
	}
	likeWords(t, "M", full, l)
	likeWords(t, "M", []api.Spec{}...)
	likeWords(t, "M", []api.Spec(nil)...)
}

// Trees without sense, trees that are as deep as any may be, and rings of lists are told to be none.
func TestAnyTree(t *testing.T) {
	m := newMaker(302)
	for range 1500 {
		l := m.tidy(1 + m.Intn(3))
		for range 3 {
			v := oneOf(m, parts(reflect.ValueOf(&l[m.Intn(len(l))]).Elem()))
			switch v.Kind() {
			case reflect.Int:
				v.SetInt(int64(oneOf(m, []int{-1 << 63, -1, 0, 1, 99, 1<<63 - 1})))
			case reflect.String:
				v.SetString(oneOf(m, []string{"", "_", "rule", "\x00", "\xff\xfe", "é", "a b", long + long}))
			default:
				v.SetZero()
			}
		}
		likeWords(t, oneOf(m, []string{"M", "", "_"}), l...)
	}
	deep := api.Ref{Name: "r"}
	for range 1 << 15 {
		deep = api.Ref{Name: "r", Args: []api.Ref{deep}}
	}
	ring := []api.Ref{{Name: "r"}, {Name: "r"}}
	ring[0].Args, ring[1].Args = ring, ring
	for _, x := range []api.Ref{deep, ring[1]} {
		s := api.Spec{Name: "M", Rules: []api.RuleLine{{Name: "r", Alts: []api.Alt{{Syms: []api.Ref{x}}}}}}
		want := []api.Diag{{Module: "M", Why: api.ErrArg}}
		if made, d := compose.Compose("M", s); made.Name != "" || !slices.Equal(d, want) || !slices.Equal(compose.Check("M", s), want) {
			t.Error(d)
		}
		if name, e := compose.Name("M", "M", "r", s); name != "" || e != api.ErrArg {
			t.Error(name, e)
		}
	}
}

// Places may be any numbers; they are told as they are.
func TestAnyPlaces(t *testing.T) {
	for _, at := range []int{-1 << 63, -1, 0, 1<<63 - 1} {
		l := []api.Spec{
			{Name: "M", Uses: []api.Use{{Module: "L", Names: []api.Rename{{Name: "z", As: "z"}}, At: at}}, Rules: []api.RuleLine{{Name: "r", At: at, Alts: []api.Alt{{Syms: []api.Ref{{Name: "q", At: at}}, At: at}}}, {Name: "r", At: at, Alts: []api.Alt{{}}}}},
			{Name: "L"},
		}
		want := []api.Diag{{Module: "M", Why: api.ErrNone, At: at}, {Module: "M", Why: api.ErrThere, At: at}, {Module: "M", Why: api.ErrUnknown, At: at}}
		if d := compose.Check("M", l...); !slices.Equal(d, want) {
			t.Error(d)
		}
		likeWords(t, "M", l...)
	}
}

// Rows of modules, each of which extends the one behind it: as many as may be, and far more.
func TestManyModules(t *testing.T) {
	const many = 256
	var rows []api.Spec
	for i, s := range chain(many, false) {
		if len(s.Uses) > 0 {
			s.Uses[0].Names = []api.Rename{{Name: "r", As: "r"}}
		}
		s.Rules = []api.RuleLine{{Name: "r", Open: true, Params: []string{"x" + strconv.Itoa(i)}, Alts: []api.Alt{{Syms: []api.Ref{{Name: "x" + strconv.Itoa(i), At: i}}}}}}
		rows = append(rows, s)
	}
	s, d := compose.Compose("M", rows...)
	if len(d) > 0 || len(s.Rules) != 1 || len(s.Rules[0].Alts) != many {
		t.Fatal(d)
	}
	for i, a := range s.Rules[0].Alts { // the last module's rule is the one that is extended, and stands first
		if want := (i + many - 1) % many; a.Syms[0].At != want || a.Syms[0].Name != "x255" {
			t.Fatal(i, a)
		}
	}
	if name, e := compose.Name("M", "M17", "r", rows...); name != "r" || e != api.OK {
		t.Error(name, e)
	}
	long := chain(60000, false)
	for i := range long {
		long[i].Rules = []api.RuleLine{{Name: "r", Open: true, Alts: []api.Alt{{}}}}
	}
	if d := compose.Check("M", long...); !slices.Equal(d, []api.Diag{{Module: "M", Why: api.ErrItems}}) {
		t.Error(d)
	}
}
