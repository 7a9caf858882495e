package solve_test

import (
	"reflect"
	"slices"
	"testing"

	"quoin/api"
	"quoin/solve"
)

// DOC.md's R4: what is handed in is not changed and not kept, what is answered is new memory. R5: same arguments, same answers.

// roomy is a value in memory of its own, with room behind each list in which marks stand.
func roomy[T any](x T) T { return copied(reflect.ValueOf(x), true).Interface().(T) }

// clone is a value in memory of its own.
func clone[T any](x T) T { return copied(reflect.ValueOf(x), false).Interface().(T) }

func copied(v reflect.Value, isRoomy bool) reflect.Value {
	made := reflect.New(v.Type()).Elem()
	switch v.Kind() {
	case reflect.Struct:
		for i := range v.NumField() {
			made.Field(i).Set(copied(v.Field(i), isRoomy))
		}
	case reflect.Slice:
		for i := range v.Len() {
			made = reflect.Append(made, copied(v.Index(i), isRoomy))
		}
		if isRoomy {
			mark := reflect.New(v.Type().Elem()).Elem()
			spoil(mark)
			made = reflect.Append(made, mark, mark).Slice(0, v.Len())
		}
	default:
		made.Set(v)
	}
	return made
}

// spoil overwrites a value, its lists, and the room behind them.
func spoil(v reflect.Value) {
	switch v.Kind() {
	case reflect.Struct:
		for i := range v.NumField() {
			spoil(v.Field(i))
		}
	case reflect.Slice:
		l := v.Slice(0, v.Cap())
		for i := range l.Len() {
			spoil(l.Index(i))
		}
	case reflect.String:
		v.SetString("spoilt")
	case reflect.Bool:
		v.SetBool(!v.Bool())
	default:
		v.SetInt(-77)
	}
}

// all is all that stands in a value, in the room behind its lists, too.
func all(x any) string { return told(room(reflect.ValueOf(x)).Interface()) }

// room is a value with the room behind its lists as parts of them.
func room(v reflect.Value) reflect.Value {
	made := reflect.New(v.Type()).Elem()
	switch v.Kind() {
	case reflect.Struct:
		for i := range v.NumField() {
			made.Field(i).Set(room(v.Field(i)))
		}
	case reflect.Slice:
		l := v.Slice(0, v.Cap())
		for i := range l.Len() {
			made = reflect.Append(made, room(l.Index(i)))
		}
	default:
		made.Set(v)
	}
	return made
}

// span is the memory of a list, with the room behind it.
type span struct{ from, to uintptr }

// spans are those of all lists of a value.
func spans(v reflect.Value) []span {
	var l []span
	switch v.Kind() {
	case reflect.Struct:
		for i := range v.NumField() {
			l = append(l, spans(v.Field(i))...)
		}
	case reflect.Slice:
		if v.Cap() > 0 {
			l = append(l, span{v.Pointer(), v.Pointer() + uintptr(v.Cap())*v.Type().Elem().Size()})
		}
		for i := range v.Cap() {
			l = append(l, spans(v.Slice(0, v.Cap()).Index(i))...)
		}
	}
	return l
}

// apart tells whether no two lists of values share memory.
func apart(l ...any) bool {
	var s []span
	for _, x := range l {
		s = append(s, spans(reflect.ValueOf(x))...)
	}
	slices.SortFunc(s, func(a, b span) int { return int(a.from) - int(b.from) })
	for i := 1; i < len(s); i++ {
		if s[i].from < s[i-1].to {
			return false
		}
	}
	return true
}

func TestApart(t *testing.T) {
	l := state([3]int{0, 0, 0}, [3]int{1, 0, 0})
	a := api.Auto{States: [][]api.Item{l, l[1:]}}
	if apart(a) || apart(l[:1], l[1:]) || !apart(l, clone(l)) || !apart(clone(a)) || apart([][]int{{1}}[:1], a) {
		t.Fatal("the test is wrong")
	}
}

// answers are what all calls tell of a grammar, an automaton, and clashes.
type answers struct {
	Table   api.Table
	Clashes []api.Clash
	Moves   [][]api.Move
	Lines   []string
	Is      []bool
	Whys    []api.Errno
}

func ask(g api.Plain, a api.Auto, l []api.Clash) answers {
	var made answers
	var e api.Errno
	made.Table, made.Clashes, e = solve.Solve(g, a)
	made.Whys = append(made.Whys, e)
	for s := range a.States {
		for kind := range g.Kinds {
			moves, e := solve.Moves(g, a, s, kind)
			made.Moves, made.Whys = append(made.Moves, moves), append(made.Whys, e)
		}
	}
	made.Lines, e = solve.Lines(g, l...)
	made.Whys = append(made.Whys, e)
	made.Is = append(made.Is, solve.Free(l...), solve.Settled(l...))
	return made
}

func TestArguments(t *testing.T) {
	m := newMaker(910)
	clashes, settled := 0, 0
	for n := range 600 {
		g := m.grammar()
		a := m.auto(t, g)
		_, l, e := solve.Solve(g, a)
		if e != api.OK || len(a.States) > 20 {
			continue
		}
		clashes += len(l)
		for _, c := range l {
			if c.Settled {
				settled++
			}
		}
		switch n % 10 {
		case 0:
			g.Prods = append(g.Prods, api.Prod{Left: -1})
		case 1:
			a.States[0] = append(a.States[0], api.Item{Prod: -1})
		case 2:
			l = append(l, api.Clash{Kind: -1})
		}
		g, a, l = roomy(g), roomy(a), roomy(l)
		kept := all(g) + all(a) + all(l)
		one, again := ask(g, a, l), ask(g, a, l)
		if all(g)+all(a)+all(l) != kept {
			t.Fatal("an argument is changed")
		}
		if !apart(g, a, l, one, again) {
			t.Fatal("an answer shares memory")
		}
		want := told(one)
		spoil(reflect.ValueOf(&again).Elem())
		if told(ask(clone(g), clone(a), clone(l))) != want || told(ask(g, a, l)) != want {
			t.Fatal("other answers of the same")
		}
		for _, v := range []reflect.Value{reflect.ValueOf(&g), reflect.ValueOf(&a), reflect.ValueOf(&l)} {
			spoil(v.Elem())
		}
		if told(one) != want {
			t.Fatal("what is told hangs on what was handed in")
		}
	}
	if clashes < 500 || settled < 50 {
		t.Error(clashes, settled)
	}
}

// Lists that are handed in may share memory with each other: those that come do not.
func TestSharedLists(t *testing.T) {
	g := read("E = E p E; E = E p E; E = n")
	g.Prods[1].Right = g.Prods[0].Right
	a := built(t, g)
	for s := range a.Next {
		if slices.Max(a.Next[s]) == -1 {
			a.Next[s] = a.Next[wayTo(g, a, "n")] // nothing goes on from there, too
		}
	}
	prods := []int{0, 1}
	l := []api.Clash{{Kind: 3, Prods: prods}, {Kind: 3, Prods: prods}}
	kept := told(g) + told(a) + told(l)
	if got := ask(g, a, l); !apart(got) || told(g)+told(a)+told(l) != kept || len(got.Clashes) == 0 || len(got.Lines) != 2 {
		t.Error(told(got))
	}
}

// Lists that are empty may be nil: it is the same.
func TestEmptyLists(t *testing.T) {
	none := read("S = A; A =; A = a")
	full := clone(none)
	for i := range full.Prods {
		full.Prods[i].Right = append([]int{}, full.Prods[i].Right...)
		full.Prods[i].Act.Kids = []api.Act{}
	}
	a := built(t, none)
	want := told(ask(none, a, []api.Clash{{Shift: 1}}))
	if told(ask(full, a, []api.Clash{{Shift: 1, Prods: []int{}}})) != want {
		t.Error("empty lists and none are not the same")
	}
	if told(ask(none, api.Auto{}, nil)) != told(ask(full, api.Auto{States: [][]api.Item{}, Next: [][]int{}}, []api.Clash{})) {
		t.Error("empty lists and none are not the same")
	}
}
