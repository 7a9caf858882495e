package derive_test

import (
	"reflect"
	"slices"
	"testing"

	"quoin/api"
	"quoin/derive"
)

// DOC.md's R4: what is handed in is not changed and not kept, what is answered is new memory. R5: same arguments, same answers.

// roomy is a value in memory of its own, with room behind each list in which marks stand.
func roomy[T any](x T) T { return copied(reflect.ValueOf(x), true).Interface().(T) }

func copied(v reflect.Value, isRoomy bool) reflect.Value {
	made := reflect.New(v.Type()).Elem()
	switch v.Kind() {
	case reflect.Struct:
		for i := range v.NumField() {
			made.Field(i).Set(copied(v.Field(i), isRoomy))
		}
	case reflect.Slice:
		for i := range v.Len() {
			made = reflect.Append(made, copied(v.Index(i), isRoomy))
		}
		if isRoomy {
			mark := reflect.New(v.Type().Elem()).Elem()
			spoil(mark)
			made = reflect.Append(made, mark, mark).Slice(0, v.Len())
		}
	default:
		made.Set(v)
	}
	return made
}

// spoil overwrites a value, its lists, and the room behind them.
func spoil(v reflect.Value) {
	switch v.Kind() {
	case reflect.Struct:
		for i := range v.NumField() {
			spoil(v.Field(i))
		}
	case reflect.Slice:
		l := v.Slice(0, v.Cap())
		for i := range l.Len() {
			spoil(l.Index(i))
		}
	case reflect.String:
		v.SetString("spoilt")
	case reflect.Bool:
		v.SetBool(!v.Bool())
	default:
		v.SetInt(-77)
	}
}

// all is all that stands in a value, in the room behind its lists, too.
func all(x any) string { return told(room(reflect.ValueOf(x)).Interface()) }

// room is a value with the room behind its lists as parts of them.
func room(v reflect.Value) reflect.Value {
	made := reflect.New(v.Type()).Elem()
	switch v.Kind() {
	case reflect.Struct:
		for i := range v.NumField() {
			made.Field(i).Set(room(v.Field(i)))
		}
	case reflect.Slice:
		l := v.Slice(0, v.Cap())
		for i := range l.Len() {
			made = reflect.Append(made, room(l.Index(i)))
		}
	default:
		made.Set(v)
	}
	return made
}

// span is the memory of a list, with the room behind it.
type span struct{ from, to uintptr }

// spans are those of all lists of a value.
func spans(v reflect.Value) []span {
	var l []span
	switch v.Kind() {
	case reflect.Struct:
		for i := range v.NumField() {
			l = append(l, spans(v.Field(i))...)
		}
	case reflect.Slice:
		if v.Cap() > 0 {
			l = append(l, span{v.Pointer(), v.Pointer() + uintptr(v.Cap())*v.Type().Elem().Size()})
		}
		for i := range v.Cap() {
			l = append(l, spans(v.Slice(0, v.Cap()).Index(i))...)
		}
	}
	return l
}

// apart tells whether no two lists of values share memory.
func apart(l ...any) bool {
	var s []span
	for _, x := range l {
		s = append(s, spans(reflect.ValueOf(x))...)
	}
	slices.SortFunc(s, func(a, b span) int { return int(a.from) - int(b.from) })
	for i := 1; i < len(s); i++ {
		if s[i].from < s[i-1].to {
			return false
		}
	}
	return true
}

func TestApart(t *testing.T) {
	l := []api.Deriv{leaf(0), leaf(1)}
	a, b := node(0, l...), node(0, l[1:]...)
	if apart(a, b) || apart(node(0, l[:1]...), l[1:]) || !apart(l, []int{1}) || apart(node(0, a, node(1, l...))) || !apart(node(0, clone(a), clone(a))) {
		t.Fatal("the test is wrong")
	}
}

// answers are what all calls tell of a grammar, a row, a tree and choices.
type answers struct {
	Count, Viable, Parts int
	Tree, Made           api.Deriv
	IsChecked            bool
	Yield, Row           []int
	Errors               []int
}

func ask(g api.Plain, row []int, d api.Deriv, prods []int) answers {
	var a answers
	var e [5]api.Errno
	a.Count, e[0] = derive.Count(g, row...)
	a.Tree, e[1] = derive.Tree(g, row...)
	a.Viable, e[2] = derive.Viable(g, row...)
	a.Parts, e[3] = derive.Parts(g, row...)
	a.IsChecked = derive.Check(g, d, row...)
	a.Yield = derive.Yield(g, d)
	a.Row, a.Made, e[4] = derive.Sentence(g, prods, 6)
	for _, why := range e {
		a.Errors = append(a.Errors, int(why))
	}
	return a
}

func TestArguments(t *testing.T) {
	m := newMaker(610)
	for n := range 6000 {
		g := m.plain(4, 3, 3)
		prods := roomy(m.choices(8))
		row, d, e := derive.Sentence(g, prods, 6)
		if e != api.OK || len(row) > 12 {
			row, d = m.row(g, 4), node(0, leaf(0), node(1))
		}
		g, row, d = roomy(g), roomy(row), roomy(d)
		if n%10 == 0 {
			g.Prods = append(g.Prods, api.Prod{Left: -1})
		}
		if n%10 == 1 {
			row = append(row, -1)
		}
		kept := all(g) + all(row) + all(d) + all(prods)
		a, again := ask(g, row, d, prods), ask(g, row, d, prods)
		if all(g)+all(row)+all(d)+all(prods) != kept {
			t.Fatal("an argument is changed")
		}
		if !apart(g, row, d, prods, a, again) {
			t.Fatal("an answer shares memory")
		}
		want := told(a)
		spoil(reflect.ValueOf(&again).Elem())
		if told(ask(clone(g), clone(row), clone(d), clone(prods))) != want || told(ask(g, row, d, prods)) != want {
			t.Fatal("other answers of the same")
		}
		for _, v := range []reflect.Value{reflect.ValueOf(&g), reflect.ValueOf(&row), reflect.ValueOf(&d), reflect.ValueOf(&prods)} {
			spoil(v.Elem())
		}
		if told(a) != want {
			t.Fatal("what is told hangs on what was handed in")
		}
	}
}

// Rules that make nothing have the same tree wherever they stand, but no list in common.
func TestListsOfLikeTrees(t *testing.T) {
	g := read("S = A A A a; A = B B; B = C; C =")
	d, e := derive.Tree(g, 2)
	if e != api.OK || told(d.Kids[0]) != told(d.Kids[2]) || !apart(d) {
		t.Error(d, e)
	}
	d.Kids[0].Kids[0].Prod = 77
	if d.Kids[1].Kids[0].Prod != 2 || d.Kids[0].Kids[1].Prod != 2 {
		t.Error(d)
	}
	if _, d, e := derive.Sentence(g, nil, 9); e != api.OK || !apart(d) {
		t.Error(d, e)
	}
}

// Trees that are handed in may share lists.
func TestSharedTrees(t *testing.T) {
	g := read("S = A A; A = B B; B =")
	kids := []api.Deriv{node(2), node(2)}
	d := node(0, node(1, kids...), node(1, kids...))
	kept := all(d)
	if !derive.Check(g, d) || len(derive.Yield(g, d)) > 0 || all(d) != kept {
		t.Error(d)
	}
}

// Lists that are empty may be nil: it is the same.
func TestEmptyLists(t *testing.T) {
	none := read("S = A; A =; A = a")
	full := clone(none)
	for i := range full.Prods {
		full.Prods[i].Right = append([]int{}, full.Prods[i].Right...)
		full.Prods[i].Act.Kids = []api.Act{}
	}
	d := node(0, node(1))
	other := node(0, api.Deriv{Prod: 1, Kids: []api.Deriv{}})
	if told(ask(full, []int{}, other, []int{})) != told(ask(none, nil, d, nil)) {
		t.Error("empty lists and none are not the same")
	}
}
