package work_test

import (
	"slices"
	"sync"
	"testing"

	"quoin/api"
	"quoin/work"
)

// R4: what is handed in is not changed and not kept, what is answered is new memory; R5: two objects know nothing of one another

// marked is a copy of l with room behind it in which marks stand.
func marked(l ...int) []int { return append(slices.Clone(l), 7777, -1, 8888)[:len(l)] }

// whole is l with the room behind it.
func whole(l []int) []int { return l[:cap(l)] }

// spoil overwrites a list and the room behind it.
func spoil(l []int) {
	for i := range whole(l) {
		whole(l)[i] = 5
	}
}

func TestNumbersHandedInAreNotChangedNorKept(t *testing.T) {
	for _, numbers := range [][]int{{}, {9, 3, 9, 64, 3}, {200, 1}, {4, -1, 3}, {4, maxNumber}} {
		s := made(t, 3, 70)
		l := marked(numbers...)
		kept := slices.Clone(whole(l))
		fresh, _ := work.NewSet(l...)
		s.Add(l...)
		is, alone := row(s.All()), row(fresh.All())
		dropping := made(t, 3, 70, 200)
		dropping.Drop(l...)
		if !slices.Equal(whole(l), kept) {
			t.Error("an argument is changed", numbers)
		}
		spoil(l)
		check(t, s, is)
		if fresh != nil {
			check(t, fresh, alone)
		}
	}
}

func TestNumbersToldAreNew(t *testing.T) {
	for _, r := range rows() {
		s := made(t, r...)
		first, second := s.All(), s.All()
		spoil(first)
		if !slices.Equal(second, r) {
			t.Fatal("two answers share memory", r)
		}
		check(t, s, r)
		third := s.All()
		s.Add(bounds()...)
		s.Drop(r...)
		if !slices.Equal(third, r) {
			t.Fatal("an answer is kept", r)
		}
	}
}

func TestJoinedSetsShareNothing(t *testing.T) {
	for _, r := range rows() {
		from, s := made(t, r...), made(t)
		s.Join(from)
		union := slices.Clone(r)
		union.add(bounds()...)
		s.Add(bounds()...)
		check(t, from, r)
		from.Drop(r...)
		from.Add(1)
		check(t, s, union)
	}
}

func TestAskingChangesNothing(t *testing.T) {
	for _, a := range rows() {
		for _, b := range rows()[:14] {
			x, y := made(t, a...), made(t, b...)
			x.Meets(y)
			x.Within(y)
			x.Same(y)
			x.Key()
			x.Copy()
			x.Has(1)
			x.Len()
			check(t, x, a)
			check(t, y, b)
		}
	}
}

// A copy and its set have room of their own, too: what one adds is not seen in the other.
func TestCopiesGrowApart(t *testing.T) {
	s := made(t, 1)
	c, d := s.Copy(), s.Copy()
	for n := range 40 {
		s.Add(64 * (3*n + 1))
		c.Add(64 * (3*n + 2))
		d.Add(64 * (3*n + 3))
	}
	for n := range 40 {
		at := 64 * (3*n + 1)
		if !s.Has(at) || s.Has(at+64) || s.Has(at+128) || c.Has(at) || !c.Has(at+64) || c.Has(at+128) || d.Has(at) || d.Has(at+64) || !d.Has(at+128) {
			t.Fatal(n)
		}
	}
	if s.Len() != 41 || c.Len() != 41 || d.Len() != 41 {
		t.Error(s.Len(), c.Len(), d.Len())
	}
}

func TestTwoObjectsKnowNothingOfOneAnother(t *testing.T) {
	l, m := work.NewList(), work.NewList()
	push(t, l, 1, 2, true)
	push(t, m, 1, 1, true)
	push(t, m, 2, 0, true)
	pop(t, l, pair{1, 2})
	pop(t, m, pair{2, 0}, pair{1, 1})
	x, y := work.NewIndex[string](), work.NewIndex[string]()
	at(t, x, "a", 0, true)
	at(t, y, "b", 0, true)
	at(t, y, "a", 1, true)
	numbered(t, x, []string{"a"})
	numbered(t, y, []string{"b", "a"})
}

// Objects of their own may be used at the same time, and what only asks may ask one at the same time.
func TestGoroutinesOfTheirOwn(t *testing.T) {
	shared := made(t, bounds()...)
	names := work.NewIndex[string]()
	names.At("a")
	var group sync.WaitGroup
	failed := make([]bool, 8)
	for i := range failed {
		group.Go(func() {
			own, e := work.NewSet(i)
			own.Join(shared)
			l := work.NewList()
			l.Push(i, i)
			n, there := names.Find("a")
			first, _, ok := l.Pop()
			failed[i] = e != api.OK || !shared.Within(own) || shared.Len() != len(bounds()) || n != 0 || !there || first != i || !ok
		})
	}
	group.Wait()
	if slices.Contains(failed, true) {
		t.Error(failed)
	}
}
