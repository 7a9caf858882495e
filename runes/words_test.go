package runes_test

import (
	"math/rand"
	"testing"

	"quoin/api"
)

// The chapter's words by the letter: a set is looked at rune by rune.

const runeCount = 0x10FFFF + 1

// members tells of each rune whether it is in one of ranges.
func members(l ...api.Range) []bool {
	m := make([]bool, runeCount)
	for _, x := range l {
		for r := x.Lo; r <= x.Hi; r++ {
			m[r] = true
		}
	}
	return m
}

// listOf is the one list of the runes that m has.
func listOf(m []bool) []api.Range {
	var l []api.Range
	for r := range m {
		switch {
		case !m[r]:
		case r > 0 && m[r-1]:
			l[len(l)-1].Hi = rune(r)
		default:
			l = append(l, api.Range{Lo: rune(r), Hi: rune(r)})
		}
	}
	return l
}

// each is the runes r for which f tells true.
func each(f func(r int) bool) []api.Range {
	m := make([]bool, runeCount)
	for r := range m {
		m[r] = f(r)
	}
	return listOf(m)
}

// isSet tells whether ranges are a set, but for how many there are.
func isSet(s []api.Range) bool {
	for i, x := range s {
		lo, hi := int(x.Lo), int(x.Hi)
		if lo < 0 || lo > 0x10FFFF || hi < 0 || hi > 0x10FFFF || lo > hi {
			return false
		}
		if i > 0 && lo-int(s[i-1].Hi) < 2 {
			return false
		}
	}
	return true
}

func set(l ...api.Range) []api.Range { return l }

// span is a range.
func span(lo, hi rune) api.Range { return api.Range{Lo: lo, Hi: hi} }

// dots are n sets of one rune, the first of them from, each two above the one ahead, as ranges.
func dots(from rune, n int) []api.Range {
	l := make([]api.Range, n)
	for i := range l {
		l[i] = span(from+2*rune(i), from+2*rune(i))
	}
	return l
}

// bars are n ranges of size runes, the first of them at from, the beginnings step apart.
func bars(from, size, step rune, n int) []api.Range {
	l := make([]api.Range, n)
	for i := range l {
		lo := from + step*rune(i)
		l[i] = span(lo, lo+size-1)
	}
	return l
}

// samples are sets: the chapter's edges, and some by chance that is the same each time.
func samples() [][]api.Range {
	l := [][]api.Range{
		nil,
		set(span(0, 0x10FFFF)),
		set(span(0, 0)),
		set(span(0x10FFFF, 0x10FFFF)),
		set(span(0, 0), span(0x10FFFF, 0x10FFFF)),
		set(span(1, 0x10FFFE)),
		set(span(0xD800, 0xDFFF)),
		set(span(0, 0xD7FF), span(0xE000, 0x10FFFF)),
		set(span(0xD7FF, 0xD800)),
		set(span(97, 122)),
		set(span(101, 101)),
		set(span(97, 97), span(99, 99)),
		set(span(98, 98)),
		set(span(48, 57), span(65, 90), span(95, 95), span(97, 122)),
	}
	chance := rand.New(rand.NewSource(2))
	for i := range 12 {
		l = append(l, chosen(chance, 40<<(i%4*5), 1+i))
	}
	return l
}

// chosen is a set of at most n ranges, of runes below bound or of the last ones.
func chosen(chance *rand.Rand, bound, n int) []api.Range {
	bound = min(bound, runeCount)
	var l []api.Range
	for range n {
		lo := chance.Intn(bound)
		hi := min(lo+chance.Intn(1+bound/8), 0x10FFFF)
		l = append(l, span(rune(lo), rune(hi)))
	}
	return listOf(members(l...))
}

// wrongSets are ranges that are no set.
func wrongSets() [][]api.Range {
	return [][]api.Range{
		set(span(97, 98), span(99, 100)),
		set(span(97, 98), span(98, 100)),
		set(span(97, 97), span(97, 97)),
		set(span(99, 99), span(97, 97)),
		set(span(97, 100), span(98, 99)),
		set(span(98, 97)),
		set(span(-1, 97)),
		set(span(-2, -1)),
		set(span(97, 0x110000)),
		set(span(0x110000, 0x110001)),
		set(span(-1<<31, 1<<31-1)),
		set(span(97, 1<<31-1), span(99, 100)),
		set(span(97, 98), span(100, 99)),
		set(span(97, 98), span(-1<<31, 99)),
		append(dots(0, 3000), span(7, 7)),
	}
}

func same(a, b []api.Range) bool {
	if len(a) != len(b) {
		return false
	}
	for i := range a {
		if a[i] != b[i] {
			return false
		}
	}
	return true
}

// want fails, if a set that was answered is not the one that is meant.
func want(t *testing.T, what string, got []api.Range, e api.Errno, meant []api.Range) {
	t.Helper()
	if e != api.OK || !same(got, meant) {
		t.Errorf("%s: %x %v, want %x", what, got, e, meant)
	}
}

// refused fails, if a call did not answer the error that is meant, with nothing beside it.
func refused(t *testing.T, what string, got []api.Range, e, meant api.Errno) {
	t.Helper()
	if e != meant || len(got) != 0 {
		t.Errorf("%s: %d ranges, %v, want %v", what, len(got), e, meant)
	}
}
