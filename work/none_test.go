package work_test

import (
	"testing"

	"quoin/api"
	"quoin/work"
)

// P3.4: nil, and what no call made

func TestNilSet(t *testing.T) {
	var none *work.Set
	for _, l := range [][]int{nil, {1}, {1, 2}, {-1}, {maxNumber}, {1, -1}} {
		if n, e := none.Add(l...); n != 0 || e != api.ErrNil {
			t.Error(l, n, e)
		}
		if n := none.Drop(l...); n != 0 {
			t.Error(l, n)
		}
	}
	for _, n := range append(noNumbers(), bounds()...) {
		if none.Has(n) {
			t.Error(n)
		}
	}
	if none.Len() != 0 || len(none.All()) != 0 || none.Copy() != nil {
		t.Error("a nil set has something")
	}
	if none.Key() != made(t).Key() {
		t.Error("the key is not the empty set's")
	}
	for _, other := range []*work.Set{nil, {}, made(t), made(t, 0), made(t, bounds()...)} {
		was := other.Len()
		if none.Join(other) != 0 || none.Meets(other) || none.Within(other) || none.Same(other) || other.Len() != was {
			t.Error("a nil set and", other.All())
		}
	}
}

func TestNilSetHandedIn(t *testing.T) {
	for _, r := range rows() {
		s := made(t, r...)
		if s.Join(nil) != 0 || s.Meets(nil) {
			t.Error(r)
		}
		if empty := len(r) == 0; s.Within(nil) != empty || s.Same(nil) != empty {
			t.Error(r)
		}
		check(t, s, r)
	}
}

func TestPlainSet(t *testing.T) {
	var plain work.Set
	check(t, &plain, nil)
	if plain.Key() != made(t).Key() || plain.Drop(0, -1) != 0 {
		t.Error("a plain set is not empty")
	}
	for _, other := range []*work.Set{nil, {}, made(t), &plain} {
		if plain.Join(other) != 0 || plain.Meets(other) || !plain.Within(other) || !plain.Same(other) {
			t.Error("a plain set and an empty one")
		}
	}
	one := made(t, 0, 70)
	if one.Join(&plain) != 0 || one.Meets(&plain) || one.Within(&plain) || one.Same(&plain) || plain.Same(one) || !plain.Within(one) || plain.Meets(one) {
		t.Error("a plain set handed in")
	}
	c := plain.Copy()
	if c == nil || c == &plain {
		t.Fatal("no copy")
	}
	c.Add(4)
	check(t, &plain, nil)
	check(t, c, row{4})
	if n, e := plain.Add(1, -1); n != 0 || e != api.ErrArg {
		t.Error(n, e)
	}
	if n, e := plain.Add(9, 3, 9); n != 2 || e != api.OK {
		t.Error(n, e)
	}
	check(t, &plain, row{3, 9})
	var joined work.Set
	if joined.Join(one) != 2 {
		t.Error("join into a plain one")
	}
	check(t, &joined, row{0, 70})
}

func TestNilList(t *testing.T) {
	var none *work.List
	for _, n := range append(noNumbers(), bounds()...) {
		if isNew, e := none.Push(n, 1); isNew || e != api.ErrNil {
			t.Error(n, isNew, e)
		}
	}
	popNone(t, none)
}

func TestPlainList(t *testing.T) {
	var plain work.List
	popNone(t, &plain)
	if isNew, e := plain.Push(-1, 1); isNew || e != api.ErrArg {
		t.Error(isNew, e)
	}
	push(t, &plain, 2, 3, true)
	push(t, &plain, 1, 3, true)
	push(t, &plain, 2, 4, false)
	pop(t, &plain, pair{1, 3}, pair{2, 3})
}

func TestNilIndex(t *testing.T) {
	var none *work.Index[string]
	for _, k := range []string{"", "a"} {
		if n, isNew, e := none.At(k); n != 0 || isNew || e != api.ErrNil {
			t.Error(k, n, isNew, e)
		}
		if n, there := none.Find(k); n != 0 || there {
			t.Error(k, n, there)
		}
	}
	for _, n := range append(noNumbers(), bounds()...) {
		if k, e := none.Key(n); k != "" || e != api.ErrNil {
			t.Error(n, k, e)
		}
	}
	if none.Len() != 0 {
		t.Error(none.Len())
	}
	var mixed *work.Index[any]
	if n, isNew, e := mixed.At([]int{}); n != 0 || isNew || e != api.ErrNil {
		t.Error(n, isNew, e)
	}
	if n, there := mixed.Find([]int{}); n != 0 || there {
		t.Error(n, there)
	}
}

func TestPlainIndex(t *testing.T) {
	var plain work.Index[string]
	numbered(t, &plain, nil)
	notThere(t, &plain, "", "a")
	at(t, &plain, "b", 0, true)
	at(t, &plain, "", 1, true)
	at(t, &plain, "b", 0, false)
	numbered(t, &plain, []string{"b", ""})
	var other work.Index[string]
	numbered(t, &other, nil)
}
