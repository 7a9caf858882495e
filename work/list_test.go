package work_test

import (
	"math/rand"
	"testing"

	"quoin/api"
	"quoin/work"
)

// P3.2 and P3.6: lists of work

// push lays a task in, and holds what is answered.
func push(t *testing.T, l *work.List, n, weight int, isNew bool) {
	t.Helper()
	if got, e := l.Push(n, weight); got != isNew || e != api.OK {
		t.Fatal("pushed", n, weight, got, e)
	}
}

// pop takes tasks out, till there are none, and holds them against those of l.
func pop(t *testing.T, l *work.List, are ...pair) {
	t.Helper()
	for i, p := range are {
		if l.Len() != len(are)-i {
			t.Fatal("the length is", l.Len(), "ahead of", p)
		}
		if n, weight, ok := l.Pop(); n != p.n || weight != p.weight || !ok {
			t.Fatal("popped", n, weight, ok, "and not", p)
		}
	}
	popNone(t, l)
}

// popNone asks a list that is empty.
func popNone(t *testing.T, l *work.List) {
	t.Helper()
	for range 2 {
		if n, weight, ok := l.Pop(); n != 0 || weight != 0 || ok || l.Len() != 0 {
			t.Fatal("popped of none", n, weight, ok, l.Len())
		}
	}
}

func TestListExample(t *testing.T) {
	l := work.NewList()
	push(t, l, 3, 9, true)
	push(t, l, 4, 9, true)
	push(t, l, 3, 1, false)
	pop(t, l, pair{3, 1}, pair{4, 9})
}

func TestNewListIsEmpty(t *testing.T) {
	if work.NewList() == nil {
		t.Fatal("none")
	}
	popNone(t, work.NewList())
}

func TestPushOfNoNumber(t *testing.T) {
	l := work.NewList()
	push(t, l, 0, 5, true)
	push(t, l, maxNumber-1, 4, true)
	for _, n := range noNumbers() {
		for _, weight := range []int{0, 5, least, greatest} {
			if isNew, e := l.Push(n, weight); isNew || e != api.ErrArg || l.Len() != 2 {
				t.Error(n, weight, isNew, e, l.Len())
			}
		}
	}
	pop(t, l, pair{maxNumber - 1, 4}, pair{0, 5})
}

func TestWeights(t *testing.T) {
	l := work.NewList()
	weights := []int{0, greatest, -1, least, 1, greatest - 1, least + 1}
	for n, weight := range weights {
		push(t, l, n, weight, true)
	}
	pop(t, l, pair{3, least}, pair{6, least + 1}, pair{2, -1}, pair{0, 0}, pair{4, 1}, pair{5, greatest - 1}, pair{1, greatest})
}

func TestEqualWeightsGoByNumber(t *testing.T) {
	for _, weight := range []int{0, -7, 7, least, greatest} {
		l := work.NewList()
		var are []pair
		for _, n := range bounds() {
			are = append(are, pair{n, weight})
		}
		for _, i := range rand.New(rand.NewSource(32)).Perm(len(are)) {
			push(t, l, are[i].n, weight, true)
		}
		pop(t, l, are...)
	}
}

func TestPushedAgain(t *testing.T) {
	one, three := pair{1, 3}, pair{3, 3}
	for _, c := range []struct {
		again int
		are   []pair
	}{
		{6, []pair{one, three, {2, 5}}},
		{greatest, []pair{one, three, {2, 5}}},
		{5, []pair{one, three, {2, 5}}},
		{4, []pair{one, three, {2, 4}}},
		{3, []pair{one, {2, 3}, three}},
		{2, []pair{{2, 2}, one, three}},
		{-5, []pair{{2, -5}, one, three}},
		{least, []pair{{2, least}, one, three}},
	} {
		l := work.NewList()
		push(t, l, 1, 3, true)
		push(t, l, 2, 5, true)
		push(t, l, 3, 3, true)
		push(t, l, 2, c.again, false)
		push(t, l, 2, 5, false)
		pop(t, l, c.are...)
	}
}

// What went may come again, with any weight: nothing is kept of it.
func TestPushedBehindPop(t *testing.T) {
	l := work.NewList()
	push(t, l, 7, -3, true)
	pop(t, l, pair{7, -3})
	push(t, l, 7, 8, true)
	push(t, l, 7, 9, false)
	push(t, l, 6, 8, true)
	push(t, l, 8, 8, true)
	if n, weight, ok := l.Pop(); n != 6 || weight != 8 || !ok {
		t.Error(n, weight, ok)
	}
	push(t, l, 6, 9, true)
	pop(t, l, pair{7, 8}, pair{8, 8}, pair{6, 9})
}

func TestListsGoAsTheirWords(t *testing.T) {
	chance := rand.New(rand.NewSource(33))
	for range 400 {
		l, w := work.NewList(), tasks(nil)
		numbers, weights := 1+chance.Intn(60), 1+chance.Intn(30)
		for range 200 {
			if chance.Intn(3) == 0 {
				p, there := w.pop()
				if n, weight, ok := l.Pop(); n != p.n || weight != p.weight || ok != there {
					t.Fatal("popped", n, weight, ok, "and not", p, there)
				}
			} else {
				n, weight := chance.Intn(numbers)*(maxNumber/64), chance.Intn(2*weights)-weights
				push(t, l, n, weight, w.push(n, weight))
			}
			if l.Len() != len(w) {
				t.Fatal(l.Len(), len(w))
			}
		}
		last := pair{0, least}
		for range len(w) {
			n, weight, ok := l.Pop()
			if p, _ := w.pop(); n != p.n || weight != p.weight || !ok {
				t.Fatal("popped", n, weight, ok, "and not", p)
			}
			if weight < last.weight || weight == last.weight && n <= last.n {
				t.Fatal("does not rise", last, n, weight)
			}
			last = pair{n, weight}
		}
		popNone(t, l)
	}
}

func TestListOfAllNumbers(t *testing.T) {
	l := work.NewList()
	for i := range maxNumber {
		push(t, l, i*5%maxNumber, 9, true)
	}
	for i := range maxNumber {
		push(t, l, i, -i/2, false)
	}
	if l.Len() != maxNumber {
		t.Fatal(l.Len())
	}
	last := pair{0, least}
	for range maxNumber {
		n, weight, ok := l.Pop()
		if !ok || weight != -n/2 || weight < last.weight || weight == last.weight && n <= last.n {
			t.Fatal(n, weight, ok, last)
		}
		last = pair{n, weight}
	}
	popNone(t, l)
}
