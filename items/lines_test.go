package items_test

import (
	"slices"
	"strings"
	"testing"

	"quoin/api"
	"quoin/items"
)

// J4: Lines.

// linesAre holds Lines at what is told, and at the words.
func linesAre(t *testing.T, g api.Plain, l []api.Item, wanted ...string) {
	t.Helper()
	if got, e := items.Lines(g, l...); e != api.OK || !slices.Equal(got, wanted) {
		t.Errorf("%s: %v: %q, %v", text(g), l, got, e)
	}
	if got := wordLines(g, l); !slices.Equal(got, wanted) {
		t.Errorf("the test is wrong: %s: %v: %q", text(g), l, got)
	}
}

func TestLines(t *testing.T) {
	g := read("S = A b error; A =; A = S")
	linesAre(t, g, nil)
	linesAre(t, g, state([3]int{0, 0, 0}), "S = . A b error , end")
	linesAre(t, g, state([3]int{0, 1, 1}), "S = A . b error , error")
	linesAre(t, g, state([3]int{0, 2, 2}), "S = A b . error , b")
	linesAre(t, g, state([3]int{0, 3, 0}), "S = A b error . , end")
	linesAre(t, g, state([3]int{1, 0, 2}), "A = . , b")
	linesAre(t, g, state([3]int{2, 0, 0}), "A = . S , end")
	linesAre(t, g, state([3]int{2, 1, 0}), "A = S . , end")
	linesAre(t, g, state([3]int{3, 0, 0}), "start = . S , end")
	linesAre(t, g, state([3]int{3, 1, 2}), "start = S . , b")
}

// Each once, in the order of a state, and nothing besides.
func TestLinesInOrder(t *testing.T) {
	g := read("S = A b; A = a")
	l := state([3]int{2, 0, 0}, [3]int{0, 1, 3}, [3]int{2, 1, 0}, [3]int{0, 1, 0}, [3]int{0, 0, 3}, [3]int{0, 1, 3}, [3]int{1, 0, 1}, [3]int{2, 0, 0})
	linesAre(t, g, l, "S = . A b , b", "S = A . b , end", "S = A . b , b", "A = . a , error", "start = . S , end", "start = S . , end")
}

// Another start, a rule of the start's name, names of any bytes.
func TestNamesInLines(t *testing.T) {
	g := read("S = A b; A = a")
	g.Start = 1
	linesAre(t, g, state([3]int{2, 0, 0}, [3]int{2, 1, 3}), "start = . A , end", "start = A . , b")
	g.Rules = []string{"start", " .\n, \xff" + strings.Repeat("x", 4000)}
	linesAre(t, g, state([3]int{0, 1, 0}, [3]int{2, 0, 1}, [3]int{1, 1, 2}), "start = "+g.Rules[1]+" . b , end", g.Rules[1]+" = a . , a", "start = . "+g.Rules[1]+" , error")
	g = read("S")
	linesAre(t, g, state([3]int{0, 1, 0}, [3]int{0, 0, 1}), "start = . S , error", "start = S . , end")
}
