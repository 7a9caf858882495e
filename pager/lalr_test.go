package pager_test

import (
	"slices"
	"strings"
	"testing"

	"quoin/api"
	"quoin/items"
	"quoin/pager"
)

// P15.2: Lalr.

// isUnited holds Lalr at the kernels that are told, and at the words.
func isUnited(t *testing.T, g api.Plain, wanted ...string) api.Auto {
	t.Helper()
	a, is := likeLalr(t, g)
	if got := kernels(t, g, a); !is || !slices.Equal(got, wanted) {
		t.Errorf("%s:\n%s", text(g), strings.Join(got, "\n"))
	}
	return a
}

func TestLalrOfFewStates(t *testing.T) {
	isUnited(t, read("S; a"), "start = . S , end", "start = S . , end")
	isUnited(t, read("S =; a"), "start = . S , end", "start = S . , end")
	isUnited(t, read("S = S"), "start = . S , end", "S = S . , end; start = S . , end")
}

// The states' numbers are those of the cores as they are met: a state that has one with those ahead of it has no number of its own.
func TestLalrNumbers(t *testing.T) {
	g := read("S = a A; S = b B; A = c d; A = e C; B = c d; B = e C; C = c d")
	a := isUnited(t, g,
		"start = . S , end", "S = a . A , end", "S = b . B , end", "start = S . , end",
		"A = c . d , end", "A = e . C , end", "S = a A . , end", "B = c . d , end", "B = e . C , end", "S = b B . , end",
		"A = c d . , end", "C = c . d , end", "A = e C . , end", "B = c d . , end", "B = e C . , end", "C = c d . , end")
	if wayTo(g, a, "a e c") != 11 || wayTo(g, a, "b e c") != 11 {
		t.Error(a.Next)
	}
	g = read("S = a A e; S = b A f; A = c D; D = d")
	a = isUnited(t, g,
		"start = . S , end", "S = a . A e , end", "S = b . A f , end", "start = S . , end",
		"A = c . D , e; A = c . D , f", "S = a A . e , end", "S = b A . f , end",
		"D = d . , e; D = d . , f", "A = c D . , e; A = c D . , f", "S = a A e . , end", "S = b A f . , end")
	if wayTo(g, a, "b c d") != 7 {
		t.Error(a.Next)
	}
}

// Three states of one core are one; so are those to which they go on.
func TestLalrOfManyOfOneCore(t *testing.T) {
	a := isUnited(t, read("S = a X d; S = b X e; S = c X f; X = x X; X = y"),
		"start = . S , end", "S = a . X d , end", "S = b . X e , end", "S = c . X f , end", "start = S . , end",
		"X = x . X , d; X = x . X , e; X = x . X , f", "X = y . , d; X = y . , e; X = y . , f",
		"S = a X . d , end", "S = b X . e , end", "S = c X . f , end",
		"X = x X . , d; X = x X . , e; X = x X . , f", "S = a X d . , end", "S = b X e . , end", "S = c X f . , end")
	g := read("S = a X d; S = b X e; S = c X f; X = x X; X = y")
	if one, e := items.Build(g); e != api.OK || len(one.States) != len(a.States)+6 {
		t.Error(len(one.States), e)
	}
	if l := wayTo(g, a, "a x"); wayTo(g, a, "b x x") != l || wayTo(g, a, "c x") != l || a.Next[l][symbols(g, "x")[0]] != l {
		t.Error(a.Next)
	}
}

func TestLalrByChance(t *testing.T) {
	m := newMaker(804)
	often := 0
	for n := range 6000 {
		var g api.Plain
		switch n % 3 {
		case 0:
			g = m.plain(1+m.Intn(6), 1+m.Intn(3), 1+m.Intn(4))
		case 1:
			g = m.contexts()
		default:
			g = m.parting()
		}
		if a, is := likeLalr(t, g); is {
			one, e := items.Build(g)
			if e != api.OK || len(a.States) > len(one.States) {
				t.Fatal(text(g), e)
			}
			count(&often, len(a.States) < len(one.States))
		}
	}
	if often < 1000 {
		t.Error(often)
	}
}

// States that may not be put together without a clash, are.
func TestLalrClashes(t *testing.T) {
	g := read("S = b A e; S = b B f; A = c B; A = c; B = c A; B = c")
	a, is := likeLalr(t, g)
	merged, e := pager.Build(g)
	if !is || e != api.OK || len(a.States) != len(merged.States)-1 || len(clashesOf(g, a)) != 2 || len(clashesOf(g, merged)) != 0 {
		t.Error(a, e)
	}
}
