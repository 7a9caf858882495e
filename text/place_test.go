package text_test

import (
	"math"
	"testing"

	"quoin/api"
	"quoin/text"
)

var placed = []string{
	"", "a", "\n", "\n\n", "a\u00e9\nb", "a\u00e9\nb\n", "\r\n\r\n", "\u20ac\U0001f600\ufffd\n\u00e9\n\nx",
	"\xff\xfe\n\xc0\x80a", "\xe2\x82\n\x82", "a\xed\xa0\x80b\nc\xf4\x90\x80\x80", "\xe2\x82\xac\xe2\x82", "\xc3\n\xa9",
}

// P1.3: the place of every byte, those within a rune and the one behind the last too.
func TestAt(t *testing.T) {
	for _, s := range append(texts(), placed...) {
		for at := 0; at <= len(s); at++ {
			if p, e := text.At(s, at); p != placeOf(s, at) || e != api.OK {
				t.Errorf("At(%q, %d) = %v, %v, not %v", s, at, p, e, placeOf(s, at))
			}
		}
	}
	for _, x := range []struct {
		at   int
		want api.Place
	}{{0, api.Place{Line: 1, Column: 1}}, {1, api.Place{Line: 1, Column: 2}}, {2, api.Place{Line: 1, Column: 3}}, {3, api.Place{Line: 1, Column: 3}}, {4, api.Place{Line: 2, Column: 1}}, {5, api.Place{Line: 2, Column: 2}}} {
		if p, e := text.At("a\u00e9\nb", x.at); p != x.want || e != api.OK {
			t.Errorf("At(%d) = %v, %v", x.at, p, e)
		}
	}
}

// P1.3: bytes that are not there.
func TestAtRefuses(t *testing.T) {
	for _, s := range placed {
		for _, at := range []int{-1, math.MinInt, len(s) + 1, math.MaxInt} {
			if p, e := text.At(s, at); p != (api.Place{}) || e != api.ErrPlace {
				t.Errorf("At(%q, %d) = %v, %v", s, at, p, e)
			}
		}
	}
}

// P1.3: the byte of every place around a text, and of those that it has not.
func TestByte(t *testing.T) {
	for _, s := range placed {
		begins := map[api.Place]int{placeOf(s, len(s)): len(s)}
		for _, p := range pieces(s) {
			begins[placeOf(s, p.at)] = p.at
		}
		for line := -1; line < 7; line++ {
			for column := -1; column < 15; column++ {
				p := api.Place{Line: line, Column: column}
				want, there := begins[p]
				why := api.ErrPlace
				if there {
					why = api.OK
				}
				if n, e := text.Byte(s, p); n != want || e != why {
					t.Errorf("Byte(%q, %v) = %d, %v, not %d, %v", s, p, n, e, want, why)
				}
			}
		}
		for _, p := range []api.Place{{Line: math.MinInt, Column: 1}, {Line: 1, Column: math.MinInt}, {Line: math.MaxInt, Column: 1}, {Line: 1, Column: math.MaxInt}} {
			if n, e := text.Byte(s, p); n != 0 || e != api.ErrPlace {
				t.Errorf("Byte(%q, %v) = %d, %v", s, p, n, e)
			}
		}
	}
}

// P1.6: there and back, of each byte at which a piece begins and of the length.
func TestByteOfAt(t *testing.T) {
	for _, s := range append(texts(), placed...) {
		for _, p := range append(pieces(s), piece{at: len(s)}) {
			place, e := text.At(s, p.at)
			n, f := text.Byte(s, place)
			if n != p.at || e != api.OK || f != api.OK {
				t.Errorf("Byte of At(%q, %d) = %d, %v, %v", s, p.at, n, e, f)
			}
		}
	}
}
