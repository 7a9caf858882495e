package work

import (
	"container/heap"

	"quoin/api"
)

// List is a list of work.
type List struct{ waiting tasks }

// NewList is an empty list.
func NewList() *List { return &List{} }

// Push lays a task in: whether it was not in it.
func (l *List) Push(n, weight int) (bool, api.Errno) {
	if l == nil {
		return false, api.ErrNil
	}
	if !isNumber(n) {
		return false, api.ErrArg
	}
	if one := l.waiting.byNumber[n]; one != nil {
		lighten(&l.waiting, one, weight)
		return false, api.OK
	}
	heap.Push(&l.waiting, &task{n: n, weight: weight})
	return true, api.OK
}

// Pop takes the first task out.
func (l *List) Pop() (n, weight int, ok bool) {
	if l.Len() == 0 {
		return 0, 0, false
	}
	one := takeFirst(&l.waiting)
	return one.n, one.weight, true
}

// Len is how many tasks there are.
func (l *List) Len() int {
	if l == nil {
		return 0
	}
	return length(&l.waiting)
}

// length is how many there are in a heap.
func length(h heap.Interface) int { return h.Len() }

// lighten gives a task of a heap the weight, if that is the lesser one.
func lighten(h heap.Interface, one *task, weight int) {
	if weight < one.weight {
		one.weight = weight
		heap.Fix(h, one.place)
	}
}

// takeFirst takes the first task out of a heap that has one.
func takeFirst(h heap.Interface) *task { return heap.Pop(h).(*task) }

// task is a number that waits, with its weight, and its place among the rows of a heap.
type task struct{ n, weight, place int }

// tasks is a heap of tasks; byNumber tells which of them is a number's, as no number may wait twice.
type tasks struct {
	rows     []*task
	byNumber map[int]*task
}

func (t *tasks) Len() int { return len(t.rows) }

func (t *tasks) Less(i, j int) bool {
	a, b := t.rows[i], t.rows[j]
	return a.weight < b.weight || a.weight == b.weight && a.n < b.n
}

func (t *tasks) Swap(i, j int) {
	t.rows[i], t.rows[j] = t.rows[j], t.rows[i]
	t.rows[i].place, t.rows[j].place = i, j
}

func (t *tasks) Push(x any) {
	one := x.(*task)
	if t.byNumber == nil { // the zero one is an empty heap, too
		t.byNumber = map[int]*task{}
	}
	one.place = len(t.rows)
	t.rows = append(t.rows, one)
	t.byNumber[one.n] = one
}

func (t *tasks) Pop() any {
	last := len(t.rows) - 1
	one := t.rows[last]
	t.rows[last] = nil // what went is not kept in the room behind the end
	t.rows = t.rows[:last]
	delete(t.byNumber, one.n)
	return one
}
