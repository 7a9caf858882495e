package work_test

import (
	"math"
	"math/rand"
	"slices"
	"strconv"
	"testing"

	"quoin/api"
	"quoin/work"
)

// P3.3 and P3.7: numberings

// at asks for a key's number, and holds what is answered.
func at[K comparable](t *testing.T, x *work.Index[K], k K, n int, isNew bool) {
	t.Helper()
	if got, is, e := x.At(k); got != n || is != isNew || e != api.OK {
		t.Fatal("at", k, got, is, e, "and not", n, isNew)
	}
}

// numbered holds a numbering against its keys, there and back.
func numbered[K comparable](t *testing.T, x *work.Index[K], keys []K) {
	t.Helper()
	if x.Len() != len(keys) {
		t.Fatal("the length is", x.Len(), "and not", len(keys))
	}
	for n, k := range keys {
		if got, there := x.Find(k); got != n || !there {
			t.Fatal("found", k, got, there, "and not", n)
		}
		if got, e := x.Key(n); got != k || e != api.OK {
			t.Fatal("the key of", n, got, e, "and not", k)
		}
	}
	var none K
	for _, n := range []int{-1, len(keys), len(keys) + 1, maxNumber, -maxNumber, least, greatest} {
		if k, e := x.Key(n); k != none || e != api.ErrNone {
			t.Fatal("the key of", n, k, e)
		}
	}
}

// notThere asks for keys that have no number.
func notThere[K comparable](t *testing.T, x *work.Index[K], keys ...K) {
	t.Helper()
	was := x.Len()
	for _, k := range keys {
		if n, there := x.Find(k); n != 0 || there || x.Len() != was {
			t.Fatal("found", k, n, there, x.Len())
		}
	}
}

func TestIndexExample(t *testing.T) {
	x := work.NewIndex[string]()
	at(t, x, "b", 0, true)
	at(t, x, "a", 1, true)
	at(t, x, "b", 0, false)
	if k, e := x.Key(1); k != "a" || e != api.OK {
		t.Error(k, e)
	}
	if k, e := x.Key(2); k != "" || e != api.ErrNone {
		t.Error(k, e)
	}
	numbered(t, x, []string{"b", "a"})
}

func TestNewIndexIsEmpty(t *testing.T) {
	if work.NewIndex[int]() == nil {
		t.Fatal("none")
	}
	numbered(t, work.NewIndex[int](), nil)
	notThere(t, work.NewIndex[int](), 0, 1, -1)
	notThere(t, work.NewIndex[string](), "", "a")
}

// inOrder numbers keys, and asks for all of them at each step.
func inOrder[K comparable](t *testing.T, keys ...K) {
	t.Helper()
	x := work.NewIndex[K]()
	for n, k := range keys {
		notThere(t, x, keys[n:]...)
		at(t, x, k, n, true)
		at(t, x, k, n, false)
		at(t, x, keys[0], 0, false)
		numbered(t, x, keys[:n+1])
	}
}

func TestKeysOfAllTypes(t *testing.T) {
	type point struct {
		x, y int
		name string
	}
	one, other := 1, 1
	inOrder(t, "", "b", "a", "\x00", "ab", "\xff")
	inOrder(t, 0, greatest, -1, least, 1)
	inOrder(t, false, true)
	inOrder(t, point{}, point{1, 2, "a"}, point{2, 1, "a"}, point{1, 2, "b"}, point{1, 2, ""})
	inOrder(t, [2]int{1, 2}, [2]int{2, 1}, [2]int{}, [2]int{1, 1})
	inOrder(t, &one, &other, nil)
	inOrder[any](t, nil, 1, "1", int8(1), uint8(1), 1.0, point{}, [1]any{"1"})
	inOrder[error](t, api.ErrArg, nil, api.ErrNil)
	inOrder(t, 0.5, 0, math.Inf(1), math.Inf(-1))
}

func TestNumberingsGoAsTheirWords(t *testing.T) {
	chance := rand.New(rand.NewSource(34))
	for range 200 {
		x := work.NewIndex[string]()
		var keys []string
		most := 1 + chance.Intn(80)
		for range 100 {
			k := strconv.Itoa(chance.Intn(most))
			n := slices.Index(keys, k)
			if n < 0 {
				notThere(t, x, k)
				n = len(keys)
				keys = append(keys, k)
				at(t, x, k, n, true)
			} else {
				at(t, x, k, n, false)
			}
			if x.Len() != len(keys) {
				t.Fatal(x.Len(), keys)
			}
		}
		numbered(t, x, keys)
	}
}

func TestIndexOfAllNumbers(t *testing.T) {
	x := work.NewIndex[int]()
	for n := range maxNumber {
		at(t, x, -3*n, n, true)
	}
	for _, k := range []int{1, 3, greatest, -3 * maxNumber} {
		for range 2 {
			if n, isNew, e := x.At(k); n != 0 || isNew || e != api.ErrFull || x.Len() != maxNumber {
				t.Error("one more", k, n, isNew, e, x.Len())
			}
		}
		notThere(t, x, k)
	}
	for _, n := range []int{maxNumber, maxNumber + 1, -1} {
		if k, e := x.Key(n); k != 0 || e != api.ErrNone {
			t.Error(n, k, e)
		}
	}
	for n := range maxNumber {
		at(t, x, -3*n, n, false)
		if k, e := x.Key(n); k != -3*n || e != api.OK {
			t.Fatal(n, k, e)
		}
		if got, there := x.Find(-3 * n); got != n || !there {
			t.Fatal(n, got, there)
		}
	}
}

// A key that a map would panic at is refused, at first and later.
func TestKeysThatAreNone(t *testing.T) {
	type holder struct {
		n    int
		what any
	}
	x, y := work.NewIndex[any](), work.NewIndex[holder]()
	var plain work.Index[any]
	wrong := []any{[]int{}, []int(nil), map[int]int{}, func() {}, [1]any{[]int{1}}, holder{1, []string{"a"}}}
	refuse := func(was int) {
		t.Helper()
		for _, k := range wrong {
			for _, z := range []*work.Index[any]{x, &plain} {
				if n, isNew, e := z.At(k); n != 0 || isNew || e != api.ErrArg {
					t.Error(n, isNew, e)
				}
				if n, there := z.Find(k); n != 0 || there {
					t.Error(n, there)
				}
			}
			if n, isNew, e := y.At(holder{5, k}); n != 0 || isNew || e != api.ErrArg {
				t.Error(n, isNew, e)
			}
		}
		if x.Len() != was || plain.Len() != was || y.Len() != was {
			t.Error(x.Len(), plain.Len(), y.Len())
		}
	}
	refuse(0)
	at[any](t, x, "a", 0, true)
	at[any](t, &plain, "a", 0, true)
	at(t, y, holder{5, "a"}, 0, true)
	refuse(1)
	at[any](t, x, 7, 1, true)
	numbered(t, x, []any{"a", 7})
	numbered(t, y, []holder{{5, "a"}})
}

// Keys are one where == says so: 0 and -0 are, and what is no number is unlike itself.
func TestKeysAreHeldByTheirOwnEquality(t *testing.T) {
	x := work.NewIndex[float64]()
	at(t, x, 0, 0, true)
	at(t, x, math.Copysign(0, -1), 0, false)
	at(t, x, math.NaN(), 1, true)
	at(t, x, math.NaN(), 2, true)
	if n, there := x.Find(math.NaN()); n != 0 || there {
		t.Error(n, there)
	}
}
