package work_test

import (
	"math"
	"math/rand"
	"slices"
	"testing"

	"quoin/api"
	"quoin/work"
)

// The chapter's words by the letter: sets, lists and numberings as rows that are searched from end to end.

const (
	maxNumber = 1 << 20
	least     = math.MinInt
	greatest  = math.MaxInt
)

// noNumbers are ints that are no numbers.
func noNumbers() []int { return []int{-1, maxNumber, -64, maxNumber + 1, -maxNumber, least, greatest} }

// bounds are numbers at which something may change, rising.
func bounds() []int {
	return []int{0, 1, 2, 31, 32, 63, 64, 65, 127, 128, 4095, 4096, 65535, 65536, maxNumber - 65, maxNumber - 64, maxNumber - 2, maxNumber - 1}
}

// row is a set as a rising row of its numbers.
type row []int

// add lays numbers in: how many were not in it.
func (r *row) add(l ...int) int {
	added := 0
	for _, n := range l {
		if !slices.Contains(*r, n) {
			*r = append(*r, n)
			added++
		}
	}
	slices.Sort(*r)
	return added
}

// drop takes numbers out: how many were in it.
func (r *row) drop(l ...int) int {
	was := len(*r)
	*r = slices.DeleteFunc(*r, func(n int) bool { return slices.Contains(l, n) })
	return was - len(*r)
}

// common is how many numbers both have.
func (r row) common(o row) int {
	both := 0
	for _, n := range r {
		if slices.Contains(o, n) {
			both++
		}
	}
	return both
}

// pair is a task.
type pair struct{ n, weight int }

// tasks is a list of work as a row in no order.
type tasks []pair

func (l *tasks) push(n, weight int) bool {
	for i, p := range *l {
		if p.n == n {
			(*l)[i].weight = min(p.weight, weight)
			return false
		}
	}
	*l = append(*l, pair{n, weight})
	return true
}

func (l *tasks) pop() (pair, bool) {
	if len(*l) == 0 {
		return pair{}, false
	}
	first := 0
	for i, p := range *l {
		f := (*l)[first]
		if p.weight < f.weight || p.weight == f.weight && p.n < f.n {
			first = i
		}
	}
	p := (*l)[first]
	*l = slices.Delete(*l, first, first+1)
	return p, true
}

// made is a set of numbers.
func made(t *testing.T, l ...int) *work.Set {
	t.Helper()
	s, e := work.NewSet(l...)
	if s == nil || e != api.OK {
		t.Fatal("no set of", l, e)
	}
	return s
}

// check holds a set against a row, by all that can be asked of it alone.
func check(t *testing.T, s *work.Set, r row) {
	t.Helper()
	if l := s.All(); !slices.Equal(l, r) {
		t.Fatal("the numbers are", l, "and not", r)
	}
	if s.Len() != len(r) {
		t.Fatal("the length is", s.Len(), "of", r)
	}
	for _, n := range slices.Concat(r, bounds()) {
		if s.Has(n) != slices.Contains(r, n) {
			t.Fatal("of", n, "is told", s.Has(n), "in", r)
		}
	}
	for _, n := range noNumbers() {
		if s.Has(n) {
			t.Fatal("no number, but there:", n)
		}
	}
}

// chosen are some numbers in no order, some of them twice: close to one another, far apart or at the bounds.
func chosen(chance *rand.Rand) []int {
	below := []int{3, 70, 300, 5000, maxNumber}[chance.Intn(5)]
	l := make([]int, chance.Intn(12))
	for i := range l {
		l[i] = chance.Intn(below)
		if chance.Intn(4) == 0 {
			l[i] = bounds()[chance.Intn(len(bounds()))]
		}
	}
	return l
}

// rowOf is the row of numbers.
func rowOf(l ...int) row {
	var r row
	r.add(l...)
	return r
}

// rows are sets to be held against one another: the bounds' edges, and some by chance that is the same each time.
func rows() []row {
	l := []row{nil, {0}, {1}, {0, 1}, {63}, {64}, {63, 64}, {0, 64}, {1, 65}, {maxNumber - 1}, {0, maxNumber - 1}, rowOf(bounds()...)}
	chance := rand.New(rand.NewSource(3))
	for range 60 {
		l = append(l, rowOf(chosen(chance)...))
	}
	return l
}
