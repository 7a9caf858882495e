package pager_test

import (
	"reflect"
	"slices"
	"testing"

	"quoin/api"
	"quoin/pager"
)

// DOC.md's R4: what is handed in is not changed and not kept, what is answered is new memory. R5: same arguments, same answers.

// roomy is a value in memory of its own, with room behind each list in which marks stand.
func roomy[T any](x T) T { return copied(reflect.ValueOf(x), true).Interface().(T) }

// clone is a value in memory of its own.
func clone[T any](x T) T { return copied(reflect.ValueOf(x), false).Interface().(T) }

func copied(v reflect.Value, isRoomy bool) reflect.Value {
	made := reflect.New(v.Type()).Elem()
	switch v.Kind() {
	case reflect.Struct:
		for i := range v.NumField() {
			made.Field(i).Set(copied(v.Field(i), isRoomy))
		}
	case reflect.Slice:
		for i := range v.Len() {
			made = reflect.Append(made, copied(v.Index(i), isRoomy))
		}
		if isRoomy {
			mark := reflect.New(v.Type().Elem()).Elem()
			spoil(mark)
			made = reflect.Append(made, mark, mark).Slice(0, v.Len())
		}
	default:
		made.Set(v)
	}
	return made
}

// spoil overwrites a value, its lists, and the room behind them.
func spoil(v reflect.Value) {
	switch v.Kind() {
	case reflect.Struct:
		for i := range v.NumField() {
			spoil(v.Field(i))
		}
	case reflect.Slice:
		l := v.Slice(0, v.Cap())
		for i := range l.Len() {
			spoil(l.Index(i))
		}
	case reflect.String:
		v.SetString("spoilt")
	case reflect.Bool:
		v.SetBool(!v.Bool())
	default:
		v.SetInt(-77)
	}
}

// all is all that stands in a value, in the room behind its lists, too.
func all(x any) string { return told(room(reflect.ValueOf(x)).Interface()) }

// room is a value with the room behind its lists as parts of them.
func room(v reflect.Value) reflect.Value {
	made := reflect.New(v.Type()).Elem()
	switch v.Kind() {
	case reflect.Struct:
		for i := range v.NumField() {
			made.Field(i).Set(room(v.Field(i)))
		}
	case reflect.Slice:
		l := v.Slice(0, v.Cap())
		for i := range l.Len() {
			made = reflect.Append(made, room(l.Index(i)))
		}
	default:
		made.Set(v)
	}
	return made
}

// span is the memory of a list, with the room behind it.
type span struct{ from, to uintptr }

// spans are those of all lists of a value.
func spans(v reflect.Value) []span {
	var l []span
	switch v.Kind() {
	case reflect.Struct:
		for i := range v.NumField() {
			l = append(l, spans(v.Field(i))...)
		}
	case reflect.Slice:
		if v.Cap() > 0 {
			l = append(l, span{v.Pointer(), v.Pointer() + uintptr(v.Cap())*v.Type().Elem().Size()})
		}
		for i := range v.Cap() {
			l = append(l, spans(v.Slice(0, v.Cap()).Index(i))...)
		}
	}
	return l
}

// apart tells whether no two lists of values share memory.
func apart(l ...any) bool {
	var s []span
	for _, x := range l {
		s = append(s, spans(reflect.ValueOf(x))...)
	}
	slices.SortFunc(s, func(a, b span) int { return int(a.from) - int(b.from) })
	for i := 1; i < len(s); i++ {
		if s[i].from < s[i-1].to {
			return false
		}
	}
	return true
}

func TestApart(t *testing.T) {
	l := kernel([]int{0, 0, 0}, []int{1, 0, 0})
	a := api.Auto{States: [][]api.Item{l, l[1:]}}
	if apart(a) || apart(l[:1], l[1:]) || !apart(l, clone(l)) || !apart(clone(a)) || apart([][]int{{1}}[:1], a) {
		t.Fatal("the test is wrong")
	}
}

// answers are what all calls tell of a grammar, items of two states, and an automaton.
type answers struct {
	Built, Lalr api.Auto
	United      []api.Item
	Numbers     []int
}

func ask(g api.Plain, l, k []api.Item, a api.Auto) answers {
	var made answers
	var e [5]api.Errno
	var is bool
	var cores int
	is, e[0] = pager.Weak(g, l, k)
	made.Built, e[1] = pager.Build(g)
	made.Lalr, e[2] = pager.Lalr(g)
	cores, e[3] = pager.Cores(g, a)
	made.United, e[4] = pager.Unite(g, l, k)
	made.Numbers = append(made.Numbers, cores, map[bool]int{true: 1}[is])
	for _, why := range e {
		made.Numbers = append(made.Numbers, int(why))
	}
	return made
}

func TestArguments(t *testing.T) {
	m := newMaker(810)
	for n := range 1500 {
		g := m.contexts()
		if n%2 == 0 {
			g = m.plain(4, 3, 3)
		}
		l, k := m.pair(g)
		a, e := pager.Build(g)
		if e != api.OK {
			t.Fatal(text(g), e)
		}
		if n%10 == 0 {
			g.Prods = append(g.Prods, api.Prod{Left: -1})
		}
		if n%10 == 1 {
			k = append(k, api.Item{Prod: -1})
		}
		g, l, k, a = roomy(g), roomy(l), roomy(k), roomy(a)
		kept := all(g) + all(l) + all(k) + all(a)
		one, again := ask(g, l, k, a), ask(g, l, k, a)
		if all(g)+all(l)+all(k)+all(a) != kept {
			t.Fatal("an argument is changed")
		}
		if !apart(g, l, k, a, one, again) {
			t.Fatal("an answer shares memory")
		}
		want := told(one)
		spoil(reflect.ValueOf(&again).Elem())
		if told(ask(clone(g), clone(l), clone(k), clone(a))) != want || told(ask(g, l, k, a)) != want {
			t.Fatal("other answers of the same")
		}
		for _, v := range []reflect.Value{reflect.ValueOf(&g), reflect.ValueOf(&l), reflect.ValueOf(&k), reflect.ValueOf(&a)} {
			spoil(v.Elem())
		}
		if told(one) != want {
			t.Fatal("what is told hangs on what was handed in")
		}
	}
}

// Lists that are handed in may share memory with each other: those that come do not.
func TestSharedLists(t *testing.T) {
	g := read("S = A A; A = a A; A =; B = b")
	right := []int{5, 5, 2, 5}
	for i := range g.Prods {
		g.Prods[i].Right = right[i:]
	}
	l := kernel([]int{0, 1, 0}, []int{1, 2, 0}, []int{0, 0, 2})
	a := api.Auto{States: [][]api.Item{l, l, l[1:]}}
	kept := told(g) + told(l) + told(a)
	if got := ask(g, l, l, a); !apart(got) || told(g)+told(l)+told(a) != kept || len(got.United) == 0 || len(got.Built.States) == 0 || got.Numbers[0] != 2 {
		t.Error(told(got))
	}
}

// Lists that are empty may be nil: it is the same.
func TestEmptyLists(t *testing.T) {
	none := read("S = A; A =; A = a")
	full := clone(none)
	for i := range full.Prods {
		full.Prods[i].Right = append([]int{}, full.Prods[i].Right...)
		full.Prods[i].Act.Kids = []api.Act{}
	}
	want := told(ask(none, nil, nil, api.Auto{States: [][]api.Item{nil}}))
	if told(ask(full, []api.Item{}, nil, api.Auto{States: [][]api.Item{{}}, Next: [][]int{}})) != want || told(ask(full, nil, []api.Item{}, api.Auto{States: [][]api.Item{{}}})) != want {
		t.Error("empty lists and none are not the same")
	}
	if told(ask(none, nil, nil, api.Auto{States: [][]api.Item{}})) != told(ask(full, nil, nil, api.Auto{})) {
		t.Error("empty lists and none are not the same")
	}
}
