package work_test

import (
	"math/rand"
	"slices"
	"testing"

	"quoin/api"
	"quoin/work"
)

// P3.1 and P3.5: sets

func TestSetExample(t *testing.T) {
	s := made(t, 5, 1, 5)
	check(t, s, row{1, 5})
	if n, e := s.Add(1, 2); n != 1 || e != api.OK {
		t.Error(n, e)
	}
	if n, e := s.Add(3, -1); n != 0 || e != api.ErrArg {
		t.Error(n, e)
	}
	check(t, s, row{1, 2, 5})
	if n := s.Drop(1, 1, 9); n != 1 {
		t.Error(n)
	}
	check(t, s, row{2, 5})
}

func TestNewSetOfNumbers(t *testing.T) {
	check(t, made(t), nil)
	check(t, made(t, []int{}...), nil)
	for _, n := range bounds() {
		check(t, made(t, n), row{n})
		check(t, made(t, n, n, n), row{n})
	}
	falling := bounds()
	slices.Reverse(falling)
	check(t, made(t, falling...), bounds())
	check(t, made(t, append(falling, bounds()...)...), bounds())
}

func TestNewSetOfNoNumbers(t *testing.T) {
	for _, wrong := range noNumbers() {
		for _, l := range [][]int{{wrong}, {wrong, 1, 2}, {1, wrong, 2}, {1, 2, wrong}, {wrong, wrong}} {
			if s, e := work.NewSet(l...); s != nil || e != api.ErrArg {
				t.Error(l, s, e)
			}
		}
	}
}

func TestAddCountsWhatWasNotThere(t *testing.T) {
	s := made(t, 1, 5)
	for _, c := range []struct {
		l    []int
		more int
		is   row
	}{
		{nil, 0, row{1, 5}},
		{[]int{1}, 0, row{1, 5}},
		{[]int{5, 1, 5}, 0, row{1, 5}},
		{[]int{7, 7, 7}, 1, row{1, 5, 7}},
		{[]int{7, 0, 5, 0, 64}, 2, row{0, 1, 5, 7, 64}},
		{[]int{maxNumber - 1, 63}, 2, row{0, 1, 5, 7, 63, 64, maxNumber - 1}},
	} {
		if n, e := s.Add(c.l...); n != c.more || e != api.OK {
			t.Error(c.l, n, e)
		}
		check(t, s, c.is)
	}
}

func TestAddOfNoNumberAddsNone(t *testing.T) {
	for _, was := range []row{nil, {1, 5}, bounds()} {
		s := made(t, was...)
		for _, wrong := range noNumbers() {
			for _, l := range [][]int{{wrong}, {wrong, 3, 200}, {3, wrong, 200}, {3, 200, wrong}, {1, wrong}} {
				if n, e := s.Add(l...); n != 0 || e != api.ErrArg {
					t.Error(l, n, e)
				}
				check(t, s, was)
			}
		}
	}
}

func TestDropCountsWhatWasThere(t *testing.T) {
	for _, c := range []struct {
		l    []int
		less int
		is   row
	}{
		{nil, 0, row{1, 5, 64, maxNumber - 1}},
		{[]int{2}, 0, row{1, 5, 64, maxNumber - 1}},
		{[]int{1, 1}, 1, row{5, 64, maxNumber - 1}},
		{[]int{64, 3, 64}, 1, row{1, 5, maxNumber - 1}},
		{[]int{maxNumber - 1, 5, 63, 65}, 2, row{1, 64}},
		{[]int{64, 1, maxNumber - 1, 5}, 4, nil},
		{noNumbers(), 0, row{1, 5, 64, maxNumber - 1}},
		{append(noNumbers(), 5, 5), 1, row{1, 64, maxNumber - 1}},
	} {
		s := made(t, 1, 5, 64, maxNumber-1)
		if n := s.Drop(c.l...); n != c.less {
			t.Error(c.l, n)
		}
		check(t, s, c.is)
		if n := s.Drop(c.l...); n != 0 {
			t.Error("dropped again", c.l, n)
		}
	}
}

func TestSetsGoAsTheirWords(t *testing.T) {
	chance := rand.New(rand.NewSource(31))
	for range 300 {
		s, r := made(t), row(nil)
		for range 12 {
			l := chosen(chance)
			if chance.Intn(3) > 0 {
				more := r.add(l...)
				if n, e := s.Add(l...); n != more || e != api.OK {
					t.Fatal("added", l, n, e)
				}
			} else {
				l = append(l, r[:len(r)/2]...)
				less := r.drop(l...)
				if n := s.Drop(l...); n != less {
					t.Fatal("dropped", l, n)
				}
			}
			check(t, s, r)
		}
	}
}

func TestTwoSetsAsTheirWords(t *testing.T) {
	for _, a := range rows() {
		for _, b := range rows() {
			x, y := made(t, a...), made(t, b...)
			if x.Meets(y) != (a.common(b) > 0) {
				t.Fatal("meets", a, b)
			}
			if x.Within(y) != (a.common(b) == len(a)) {
				t.Fatal("within", a, b)
			}
			if x.Same(y) != slices.Equal(a, b) {
				t.Fatal("same", a, b)
			}
			if (x.Key() == y.Key()) != slices.Equal(a, b) {
				t.Fatal("key", a, b)
			}
			union := slices.Clone(a)
			if more := union.add(b...); x.Join(y) != more {
				t.Fatal("join", a, b)
			}
			check(t, x, union)
			check(t, y, b)
		}
	}
}

func TestSetsThatDifferByOne(t *testing.T) {
	for _, n := range bounds() {
		most := slices.DeleteFunc(bounds(), func(m int) bool { return m == n })
		less, all := made(t, most...), made(t, bounds()...)
		if !less.Within(all) || all.Within(less) || less.Same(all) || all.Same(less) || less.Key() == all.Key() || !less.Meets(all) {
			t.Error("less by", n)
		}
		one := made(t, n)
		if one.Meets(less) || less.Meets(one) || !one.Meets(all) || !all.Meets(one) {
			t.Error("one, meets", n)
		}
		if less.Join(one) != 1 || !less.Same(all) || less.Key() != all.Key() {
			t.Error("join of", n)
		}
	}
}

func TestSetWithItself(t *testing.T) {
	for _, r := range rows() {
		s := made(t, r...)
		if s.Join(s) != 0 || s.Meets(s) != (len(r) > 0) || !s.Within(s) || !s.Same(s) {
			t.Error(r)
		}
		check(t, s, r)
	}
}

// The laws of union, meeting, inclusion and equality, of three sets.
func TestLawsOfSets(t *testing.T) {
	chance := rand.New(rand.NewSource(35))
	joined := func(a, b *work.Set) *work.Set {
		c := a.Copy()
		c.Join(b)
		return c
	}
	for range 2000 {
		a, b, c := made(t, chosen(chance)...), made(t, chosen(chance)...), made(t, chosen(chance)...)
		ab := joined(a, b)
		if !ab.Same(joined(b, a)) || !joined(ab, c).Same(joined(a, joined(b, c))) || !joined(a, a).Same(a) {
			t.Fatal("union", a.All(), b.All(), c.All())
		}
		if !a.Within(ab) || !b.Within(ab) || ab.Within(b) != a.Within(b) {
			t.Fatal("inclusion", a.All(), b.All())
		}
		if a.Same(b) != (a.Within(b) && b.Within(a)) || a.Same(b) != b.Same(a) {
			t.Fatal("equality", a.All(), b.All())
		}
		if a.Meets(b) != b.Meets(a) || ab.Meets(c) != (a.Meets(c) || b.Meets(c)) {
			t.Fatal("meeting", a.All(), b.All(), c.All())
		}
		if (ab.Len() == a.Len()+b.Len()) == a.Meets(b) {
			t.Fatal("numbers in common", a.All(), b.All())
		}
	}
}

func TestKeysOfManySets(t *testing.T) {
	met := map[string][]int{}
	meet := func(l ...int) {
		t.Helper()
		key := made(t, l...).Key()
		if other, there := met[key]; there {
			t.Fatal("one key of two sets", l, other)
		}
		met[key] = l
	}
	between := bounds()[2:]
	for choice := range 1 << len(between) {
		var l []int
		for i, n := range between {
			if choice>>i&1 == 1 {
				l = append(l, n)
			}
		}
		meet(l...)
	}
	for n := 97; n < maxNumber; n += 97 {
		if !slices.Contains(between, n) {
			meet(n)
		}
	}
}

// A key hangs on the numbers alone, not on the way that led to them.
func TestKeyHangsOnNumbersAlone(t *testing.T) {
	chance := rand.New(rand.NewSource(36))
	for _, r := range rows() {
		straight, winding := made(t, r...), made(t)
		extra := chosen(chance)
		for _, i := range chance.Perm(len(r)) {
			winding.Add(r[i])
			winding.Add(extra...)
		}
		winding.Join(made(t, bounds()...))
		for _, n := range slices.Concat(extra, bounds()) {
			if !slices.Contains(r, n) {
				winding.Drop(n)
			}
		}
		check(t, winding, r)
		if winding.Key() != straight.Key() || !winding.Same(straight) || !straight.Same(winding) {
			t.Fatal(r)
		}
		if straight.Copy().Key() != straight.Key() {
			t.Fatal("copy", r)
		}
	}
}

func TestCopyIsAnother(t *testing.T) {
	for _, r := range rows() {
		s := made(t, r...)
		c := s.Copy()
		check(t, c, r)
		union := slices.Clone(r)
		union.add(bounds()...)
		c.Add(bounds()...)
		check(t, s, r)
		check(t, c, union)
		c = s.Copy()
		s.Drop(r...)
		check(t, s, nil)
		check(t, c, r)
		c = s.Copy()
		s.Join(made(t, 7, 70))
		check(t, c, nil)
		check(t, s, row{7, 70})
	}
}

func TestSetOfAllNumbers(t *testing.T) {
	s, rising := made(t), make([]int, maxNumber)
	for i := range rising {
		rising[i] = i
		if n, e := s.Add(maxNumber - 1 - i); n != 1 || e != api.OK {
			t.Fatal(n, e)
		}
	}
	if s.Len() != maxNumber || !slices.Equal(s.All(), rising) {
		t.Fatal(s.Len())
	}
	if n, e := s.Add(rising...); n != 0 || e != api.OK {
		t.Error(n, e)
	}
	all := made(t, rising...)
	if !s.Same(all) || s.Key() != all.Key() || !s.Within(all) || !all.Meets(s) || s.Join(all) != 0 {
		t.Error("all numbers, two ways")
	}
	for i := range rising {
		if s.Drop(i) != 1 {
			t.Fatal(i)
		}
	}
	check(t, s, nil)
	if s.Key() != made(t).Key() || s.Join(all) != maxNumber {
		t.Error("empty once more")
	}
	if n := all.Drop(append(rising, rising...)...); n != maxNumber || all.Len() != 0 {
		t.Error(n, all.Len())
	}
}
