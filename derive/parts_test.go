package derive_test

import (
	"slices"
	"testing"

	"quoin/api"
	"quoin/derive"
)

// P13.2: Parts, counted by hand.

func hasParts(t *testing.T, text, names string, want int) {
	t.Helper()
	g := read(text)
	row := symbols(g, names)
	if n, e := derive.Parts(g, row...); n != want || e != api.OK {
		t.Errorf("%s: %s: %d, %v, not %d", text, names, n, e, want)
	}
	likeWords(t, g, row...)
}

func TestParts(t *testing.T) {
	hasParts(t, "S; a", "", 0)
	hasParts(t, "S; a", "a a", 0)
	hasParts(t, "S = a", "a", 1)
	hasParts(t, "S = a", "a a a", 3)                           // the rule at each place, though the row is not derived
	hasParts(t, "S =; a", "", 1)                               // over the one empty piece
	hasParts(t, "S =; a", "a a", 3)                            // over all three
	hasParts(t, "S = a b", "a b", 2)                           // S, and behind a
	hasParts(t, "S = a b", "a a b b", 3)                       // S, and behind each a
	hasParts(t, "S = a b c", "a b c", 3)                       // S, behind a, behind a b
	hasParts(t, "S = a b c; S = a b c", "a b c", 5)            // the dots of both, the rule once
	hasParts(t, "S = a; S = a; S = a", "a", 1)                 // a production with nothing on one side of its dot is no part
	hasParts(t, "S = A; A = a", "a", 2)                        // nor is one of one symbol
	hasParts(t, "E = E plus E; E = n", "n", 2)                 // E, and behind E
	hasParts(t, "E = E plus E; E = n", "n plus n", 7)          // E three times, behind E three times, behind E plus once
	hasParts(t, "E = E plus E; E = n", "n plus n plus n", 15)  // six E, six behind E, behind E plus: 0 to 2, 2 to 4, 0 to 4
	hasParts(t, "E = E plus E; E = n", "plus", 0)              // nothing begins
	hasParts(t, "S = S S; S = a", "a a a", 12)                 // six pieces, the rule and behind the first S
	hasParts(t, "S = S S; S =; a", "", 2)                      // the rule, and behind the first S
	hasParts(t, "S = S S; S =; a", "a", 4)                     // at both places
	hasParts(t, "S = A b; A = a; A =", "b", 5)                 // A at both places, behind A at both, S
	hasParts(t, "S = b A A c; A =", "b c", 7)                  // A thrice; behind b, b A, b A A; S
	hasParts(t, "S = a; B = b a; C = C b; C", "b a b", 4)      // B counts, though it is not reached: S, b . a twice, B
	hasParts(t, "S = a N; N = N b", "a b", 1)                  // behind a
	hasParts(t, "S = error; S = error S", "error error", 5)    // three S, two behind error
	hasParts(t, "S = A B; A = a; B = A; B = b; B =", "a b", 9) // A once; B over nothing at three places, over a, over b; behind A; S over a, over both
}

func TestPartsOfDots(t *testing.T) {
	// One production of 64 kinds over a row of so many: a part for each dot, from each place as far as it goes.
	g := read("S; a")
	g.Prods = []api.Prod{{Right: slices.Repeat([]int{2}, 64)}}
	for _, n := range []int{0, 1, 2, 63, 64, 65, 100} {
		want := 0
		for from := range n {
			want += min(n-from, 64)
		}
		if got, e := derive.Parts(g, slices.Repeat([]int{2}, n)...); got != want || e != api.OK {
			t.Error(n, got, e, want)
		}
	}
}

func TestPartsOfManyPieces(t *testing.T) {
	g := read("S = S S; S = a")
	for _, n := range []int{62, 63, 64, 65, 127, 128, 129, 200} {
		if got, e := derive.Parts(g, slices.Repeat([]int{2}, n)...); got != n*(n+1) || e != api.OK {
			t.Error(n, got, e)
		}
	}
}
