package text_test

import (
	"math"
	"slices"
	"testing"

	"quoin/api"
	"quoin/text"
)

func checkNext(t *testing.T, s string, at int) {
	t.Helper()
	want := pieceAt(s, at)
	r, size, ok := text.Next(s, at)
	if r != want.r || size != want.size || ok != want.ok {
		t.Errorf("Next(%q, %d) = %x, %d, %v, not %x, %d, %v", s, at, r, size, ok, want.r, want.size, want.ok)
	}
}

// P1.1: every rune, alone and with bytes around it.
func TestNextOfEveryRune(t *testing.T) {
	for b, want := range everyRune {
		r, size, ok := text.Next("\xff"+b+"\x80", 1)
		if r != want || size != len(b) || !ok {
			t.Fatalf("Next of %x: %x, %d, %v", want, r, size, ok)
		}
	}
}

// P1.1: every row of two bytes, and of three and four whose bytes are the edges of the forms: bytes that are none's, D800 to DFFF, forms that are too long, numbers past 10FFFF.
func TestNextOfBytes(t *testing.T) {
	for a := range 256 {
		checkNext(t, string([]byte{byte(a)}), 0)
		for b := range 256 {
			checkNext(t, string([]byte{byte(a), byte(b)}), 0)
		}
	}
	edges := []byte{0, 'a', 0x7F, 0x80, 0x8F, 0x90, 0x9F, 0xA0, 0xBF, 0xC0, 0xC1, 0xC2, 0xDF, 0xE0, 0xE1, 0xEC, 0xED, 0xEE, 0xEF, 0xF0, 0xF1, 0xF3, 0xF4, 0xF5, 0xF7, 0xF8, 0xFF}
	for _, a := range edges {
		for _, b := range edges {
			for _, c := range edges {
				for _, d := range edges {
					s := string([]byte{a, b, c, d})
					checkNext(t, s, 0)
					checkNext(t, s[:3], 0)
				}
			}
		}
	}
}

// P1.1: a piece that begins within another, and places at which there is no byte.
func TestNextAtPlaces(t *testing.T) {
	for _, x := range []struct {
		s    string
		at   int
		r    rune
		size int
		ok   bool
	}{
		{"\u00e9", 0, 0xe9, 2, true}, {"\u00e9", 1, 0, 1, false},
		{"\xed\xa0\x80", 0, 0, 1, false}, {"\xed\xbf\xbf", 0, 0, 1, false}, {"\xc0\x80", 0, 0, 1, false}, {"\xe0\x9f\xbf", 0, 0, 1, false}, {"\xf0\x8f\xbf\xbf", 0, 0, 1, false}, {"\xf4\x90\x80\x80", 0, 0, 1, false}, {"\xf8\x88\x80\x80\x80", 0, 0, 1, false},
		{"\ufffd", 0, 0xfffd, 3, true}, {"\xff\ufffd", 0, 0, 1, false}, {"\xef\xbf", 0, 0, 1, false},
		{"\x00", 0, 0, 1, true}, {"a\x80", 0, 'a', 1, true},
		{"", 0, 0, 0, false}, {"a", 1, 0, 0, false}, {"a", 2, 0, 0, false}, {"a", -1, 0, 0, false}, {"a", math.MinInt, 0, 0, false}, {"a", math.MaxInt, 0, 0, false},
	} {
		r, size, ok := text.Next(x.s, x.at)
		if r != x.r || size != x.size || ok != x.ok {
			t.Errorf("Next(%q, %d) = %x, %d, %v", x.s, x.at, r, size, ok)
		}
	}
	for _, s := range texts() {
		for at := range len(s) {
			checkNext(t, s, at)
		}
	}
}

// P1.1: Runes and Valid, and that they tell the same fault, the first one, and nothing beside it.
func TestRunesAndValid(t *testing.T) {
	for _, s := range append(texts(), "a\xffb\xfe", "a\ufffd\xffb", "\u00e9\xed\xa0\x80") {
		var want []rune
		var fault api.Fault
		for _, p := range pieces(s) {
			if !p.ok {
				want, fault = nil, api.Fault{Why: api.ErrUtf8, At: p.at}
				break
			}
			want = append(want, p.r)
		}
		l, f := text.Runes(s)
		if !slices.Equal(l, want) || f != fault {
			t.Errorf("Runes(%q) = %x, %v, not %x, %v", s, l, f, want, fault)
		}
		if f := text.Valid(s); f != fault {
			t.Errorf("Valid(%q) = %v, not %v", s, f, fault)
		}
	}
}

// P1.2: every number around the runes, and the ends of its type.
func TestEncode(t *testing.T) {
	check := func(n int) {
		want, why := "", api.ErrRune
		if isRune(n) {
			want, why = bytesOf(n), api.OK
		}
		if s, e := text.Encode(rune(n)); s != want || e != why {
			t.Fatalf("Encode(%x) = %q, %v", n, s, e)
		}
	}
	for n := -300; n < 0x110000+300; n++ {
		check(n)
	}
	check(math.MinInt32)
	check(math.MaxInt32)
}

// P1.2: Join of runes, and of rows in which some are none.
func TestJoin(t *testing.T) {
	for _, x := range []struct {
		l    []rune
		want string
		f    api.Fault
	}{
		{nil, "", api.Fault{}},
		{[]rune{0}, "\x00", api.Fault{}},
		{[]rune{'a', 0xe9, 0x20ac, 0x1f600, 0xfffd, 0x10ffff}, "a\u00e9\u20ac\U0001f600\ufffd\U0010ffff", api.Fault{}},
		{[]rune{0xd7ff, 0xe000}, "\ud7ff\ue000", api.Fault{}},
		{[]rune{0xd800}, "", api.Fault{Why: api.ErrRune, At: 0}},
		{[]rune{'a', 'b', 0xdfff, -1}, "", api.Fault{Why: api.ErrRune, At: 2}},
		{[]rune{'a', 0x110000}, "", api.Fault{Why: api.ErrRune, At: 1}},
		{[]rune{'a', 'b', 'c', -1}, "", api.Fault{Why: api.ErrRune, At: 3}},
	} {
		if s, f := text.Join(x.l...); s != x.want || f != x.f {
			t.Errorf("Join(%x) = %q, %v", x.l, s, f)
		}
	}
}

// P1.5: there and back.
func TestJoinOfRunes(t *testing.T) {
	for _, s := range texts() {
		l, f := text.Runes(s)
		if f != (api.Fault{}) {
			continue
		}
		if back, f := text.Join(l...); back != s || f != (api.Fault{}) {
			t.Errorf("Join of Runes(%q) = %q, %v", s, back, f)
		}
	}
	var all []rune
	for n := range 0x110000 {
		if isRune(n) {
			all = append(all, rune(n))
		}
	}
	s, f := text.Join(all...)
	l, g := text.Runes(s)
	if !slices.Equal(l, all) || f != (api.Fault{}) || g != (api.Fault{}) {
		t.Error("Runes of Join of all runes is another row", f, g)
	}
}

// next goes through a text by Next alone.
func next(t *testing.T, s string) []piece {
	var l []piece
	for at := 0; at < len(s); {
		r, size, ok := text.Next(s, at)
		if size < 1 || size > len(s)-at {
			t.Fatalf("Next(%q, %d) is a piece of %d bytes", s, at, size)
		}
		l = append(l, piece{at, size, r, ok})
		at += size
	}
	return l
}

// P1.8: the pieces behind a piece are those of what stands behind it.
func TestPieces(t *testing.T) {
	for _, s := range texts() {
		l := next(t, s)
		for i, p := range l {
			rest := next(t, s[p.at:])
			for k := range rest {
				rest[k].at += p.at
			}
			if !slices.Equal(rest, l[i:]) {
				t.Fatalf("pieces of %q from %d on: %v, not %v", s, p.at, rest, l[i:])
			}
		}
	}
}

// R4: what is handed in stays as it is, what lies behind its end too.
func TestJoinLeavesItsArgument(t *testing.T) {
	room := []rune{'a', 0xe9, 'b', 'c', -7}
	if s, _ := text.Join(room[:2]...); s != "a\u00e9" {
		t.Error(s)
	}
	text.Join(room...)
	if !slices.Equal(room, []rune{'a', 0xe9, 'b', 'c', -7}) {
		t.Error("Join changed what it was handed:", room)
	}
}

// R4: an answer is new memory, its spare room too, and what was told stays as it was when the argument changes.
func TestRunesAreNew(t *testing.T) {
	s := "ab\u00e9"
	one, _ := text.Runes(s)
	two, _ := text.Runes(s)
	for i := range one[:cap(one)] {
		one[:cap(one)][i] = 'z'
	}
	if !slices.Equal(two, []rune{'a', 'b', 0xe9}) {
		t.Error("two answers share memory:", two)
	}
	if three, _ := text.Runes(s); !slices.Equal(three, two) {
		t.Error("an answer was kept:", three)
	}
	l := []rune{'a', 'b'}
	joined, _ := text.Join(l...)
	l[0] = 'z'
	if joined != "ab" {
		t.Error("Join kept what it was handed:", joined)
	}
}
