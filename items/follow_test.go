package items_test

import (
	"slices"
	"testing"

	"quoin/api"
	"quoin/items"
)

// What follows, J5 to J7.

func TestClosureOfClosure(t *testing.T) {
	m := newMaker(705)
	for range 10000 {
		g := m.plain(1+m.Intn(6), 1+m.Intn(4), 1+m.Intn(4))
		l := m.items(g, 6)
		c, e := items.Closure(g, l...)
		again, eAgain := items.Closure(g, c...)
		if e != api.OK || eAgain != api.OK || !slices.Equal(c, again) {
			t.Fatal(text(g), l, c, e, again, eAgain)
		}
		if other, e := items.Closure(g, m.shuffled(l)...); e != api.OK || !slices.Equal(c, other) {
			t.Fatal(text(g), l, c, other, e)
		}
		if both, e := items.Closure(g, slices.Concat(c, l)...); e != api.OK || !slices.Equal(c, both) {
			t.Fatal(text(g), l, c, both, e)
		}
	}
}

func TestOrderMeansNothing(t *testing.T) {
	m := newMaker(706)
	for range 4000 {
		g := m.plain(1+m.Intn(5), 1+m.Intn(3), 1+m.Intn(4))
		l, e := items.Closure(g, m.items(g, 4)...)
		if e != api.OK {
			t.Fatal(e)
		}
		other := m.shuffled(l)
		for x := 1; x < size(g); x++ {
			to, e := items.Go(g, l, x)
			toToo, eToo := items.Go(g, other, x)
			if e != api.OK || eToo != api.OK || !slices.Equal(to, toToo) {
				t.Fatal(text(g), l, x, to, toToo, e, eToo)
			}
		}
		k, e := items.Kernel(g, l)
		kToo, eToo := items.Kernel(g, other)
		lines, eLines := items.Lines(g, l...)
		linesToo, eLinesToo := items.Lines(g, other...)
		if e != api.OK || eToo != api.OK || eLines != api.OK || eLinesToo != api.OK || !slices.Equal(k, kToo) || !slices.Equal(lines, linesToo) {
			t.Fatal(text(g), l, k, kToo, lines, linesToo)
		}
	}
}

// A state's kernel and its closure are the state.
func TestKernelMakesState(t *testing.T) {
	m := newMaker(707)
	often := 0
	for range 3000 {
		g := m.plain(1+m.Intn(5), 1+m.Intn(3), 1+m.Intn(4))
		a, e := items.Build(g)
		if e != api.OK {
			t.Fatal(text(g), e)
		}
		for _, l := range a.States {
			k, e := items.Kernel(g, l)
			c, eToo := items.Closure(g, k...)
			if e != api.OK || eToo != api.OK || !slices.Equal(c, l) {
				t.Fatal(text(g), l, k, c, e, eToo)
			}
			for x := 1; x < size(g); x++ { // what is gone on to hangs on the state's items, of the kernel and not
				to, _ := items.Go(g, l, x)
				fromKernel, _ := items.Go(g, k, x)
				if len(fromKernel) < len(to) && len(fromKernel) > 0 {
					often++
				}
			}
		}
	}
	if often < 100 {
		t.Error("too few:", often)
	}
}

// Build is Right, its states are unlike, each is reached by its Path, and leads where Go says.
func TestBuildIsRight(t *testing.T) {
	m := newMaker(708)
	for range 3000 {
		g := m.plain(1+m.Intn(6), 1+m.Intn(3), 1+m.Intn(4))
		a, e := items.Build(g)
		if e != api.OK || items.Right(g, a) != api.OK {
			t.Fatal(text(g), e, items.Right(g, a))
		}
		if first, _ := items.Closure(g, startItem(g)); !slices.Equal(a.States[0], first) {
			t.Fatal(text(g), a.States[0])
		}
		met := map[string]bool{}
		for s, l := range a.States {
			if met[told(l)] {
				t.Fatal(text(g), "a state twice:", l)
			}
			met[told(l)] = true
			leadsThere(t, g, a, s)
		}
	}
}

// leadsThere goes by a state's Path, and holds where it leads on against Go.
func leadsThere(t *testing.T, g api.Plain, a api.Auto, s int) {
	t.Helper()
	row, e := items.Path(a, s)
	if e != api.OK {
		t.Fatal(text(g), s, e)
	}
	at := 0
	for _, x := range row {
		at = a.Next[at][x]
	}
	if at != s {
		t.Fatal(text(g), s, row, at)
	}
	for x, to := range a.Next[s] {
		var want []api.Item
		if to >= 0 {
			want = a.States[to]
		}
		if l, e := items.Go(g, a.States[s], x); x > 0 && (e != api.OK || !slices.Equal(l, want)) || x == 0 && to != -1 {
			t.Fatal(text(g), s, x, to, l, e)
		}
	}
}
