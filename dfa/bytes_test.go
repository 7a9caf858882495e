package dfa_test

import (
	"encoding/binary"
	"math"
	"math/rand"
	"slices"
	"testing"

	"quoin/api"
	"quoin/dfa"
)

// P5.4 and P5.7: automata as bytes

// bytesOf are the bytes of an automaton.
func bytesOf(d api.Dfa) []byte {
	short := func(b []byte, n int) []byte { return binary.AppendUvarint(b, uint64(n)) }
	b := short(nil, len(d.Lows))
	for i, low := range d.Lows {
		if i > 0 {
			low -= d.Lows[i-1]
		}
		b = short(b, int(low))
	}
	b = short(b, len(d.Rule))
	for s := range d.Rule {
		b = short(b, d.Rule[s]+1)
		for _, to := range d.Next[s] {
			b = short(b, to+1)
		}
	}
	return b
}

// readOf is the automaton whose bytes these are, if there is one: what can be read of them must have them.
func readOf(b []byte) (api.Dfa, bool) {
	at := 0
	next := func() int {
		n, size := binary.Uvarint(b[at:])
		at += max(size, 0)
		return int(n)
	}
	var d api.Dfa
	low := 0
	for range min(next(), len(b)) {
		low += next()
		d.Lows = append(d.Lows, rune(low))
	}
	for range min(next(), len(b)) {
		d.Rule = append(d.Rule, next()-1)
		row := make([]int, len(d.Lows))
		for c := range row {
			row[c] = next() - 1
		}
		d.Next = append(d.Next, row)
	}
	if !mayBe(d) || !slices.Equal(bytesOf(d), b) || slices.Max(d.Rule) > 1<<31-2 {
		return api.Dfa{}, false
	}
	return d, true
}

// reads holds Read against the words.
func reads(t *testing.T, b []byte) bool {
	t.Helper()
	want, there := readOf(b)
	d, f := dfa.Read(b)
	why := api.Fault{Why: api.ErrDfa}
	if there {
		why = api.Fault{}
	}
	if !same(d, want) || f != why {
		t.Error("read", b, "as", d, f, "and not", want, why)
	}
	return there
}

func TestBytes(t *testing.T) {
	for _, x := range []struct {
		d api.Dfa
		b []byte
	}{
		{auto([]rune{0}, []int{-1, -1}), []byte{1, 0, 1, 0, 0}},
		{auto([]rune{0}, []int{0, 0}), []byte{1, 0, 1, 1, 1}},
		{auto([]rune{0, 'a', 'b'}, []int{-1, -1, 1, -1}, []int{126, -1, 0, 1}), []byte{3, 0, 97, 1, 2, 0, 0, 2, 0, 127, 0, 1, 2}},
		{auto([]rune{0, 127, 255, 0x10FFFF}, []int{127, -1, -1, -1, 0}), []byte{4, 0, 127, 128, 1, 128, 254, 67, 1, 128, 1, 0, 0, 0, 1}},
		{auto([]rune{0, 0xD800}, []int{1<<31 - 2, 0, 0}), []byte{2, 0, 128, 176, 3, 1, 255, 255, 255, 255, 7, 1, 1}},
	} {
		if b, e := dfa.Bytes(x.d); !slices.Equal(b, x.b) || e != api.OK {
			t.Error(x.d, b, e)
		}
		if d, f := dfa.Read(x.b); !same(d, x.d) || f != (api.Fault{}) {
			t.Error(x.b, d, f)
		}
		reads(t, x.b)
	}
}

func TestBytesThereAndBack(t *testing.T) {
	chance := rand.New(rand.NewSource(59))
	for range 2000 {
		d := someAuto(chance)
		d.Rule[chance.Intn(len(d.Rule))] = int(chance.Int31()) - 1
		b, e := dfa.Bytes(d)
		if e != api.OK || !slices.Equal(b, bytesOf(d)) {
			t.Fatal(d, b, e)
		}
		if again, f := dfa.Read(b); !same(again, d) || f != (api.Fault{}) {
			t.Fatal(d, again, f)
		}
	}
	many := ring(300, 5)
	for c := range 300 {
		many.Lows = append(many.Lows, rune(c+1))
		for s := range many.Next {
			many.Next[s] = append(many.Next[s], (s+c)%300)
		}
	}
	b, e := dfa.Bytes(many)
	if again, f := dfa.Read(b); !same(again, many) || f != (api.Fault{}) || e != api.OK {
		t.Error(len(again.Rule), f, e)
	}
}

func TestRulesThatAreTooGreat(t *testing.T) {
	for rule, want := range map[int]api.Errno{1<<31 - 3: api.OK, 1<<31 - 2: api.OK, 1<<31 - 1: api.ErrDfa, 1 << 31: api.ErrDfa, math.MaxInt: api.ErrDfa, 1<<32 - 1: api.ErrDfa} {
		for _, d := range []api.Dfa{auto([]rune{0}, []int{rule, 0}), auto([]rune{0}, []int{-1, 1}, []int{rule, 0}), auto([]rune{0}, []int{rule, 1}, []int{-1, 0})} {
			b, e := dfa.Bytes(d)
			if e != want || (e != api.OK) != (len(b) == 0) {
				t.Error(rule, b, e)
			}
			if e := dfa.Check(d); e != api.OK {
				t.Error(rule, "may not be", e)
			}
		}
	}
	reads(t, []byte{1, 0, 1, 255, 255, 255, 255, 7, 1})
	for _, b := range [][]byte{{1, 0, 1, 128, 128, 128, 128, 8, 1}, {1, 0, 1, 255, 255, 255, 255, 15, 1}, {1, 0, 1, 129, 128, 128, 128, 16, 1}} {
		if reads(t, b) {
			t.Error("there is one", b)
		}
	}
}

func TestBytesOfNoAutomaton(t *testing.T) {
	for name, b := range map[string][]byte{
		"nothing": {}, "no class": {0, 1, 0}, "no state": {1, 0, 0}, "neither": {0, 0}, "classes alone": {1, 0},
		"a first class that is not 0": {1, 1, 1, 0, 0}, "classes that stay": {2, 0, 0, 1, 0, 0, 0}, "classes beyond all": {2, 0, 128, 128, 68, 1, 0, 0, 0},
		"classes far beyond all":        {3, 0, 255, 255, 255, 255, 7, 255, 255, 255, 255, 7, 1, 0, 0, 0, 0},
		"classes that would come round": {4, 0, 255, 255, 255, 255, 7, 255, 255, 255, 255, 7, 2, 1, 0, 0, 0, 0, 0},
		"a step to no state":            {1, 0, 1, 0, 2}, "a step far from all": {1, 0, 1, 0, 255, 255, 255, 255, 7},
		"a byte that is left": {1, 0, 1, 0, 0, 0}, "many bytes that are left": append([]byte{1, 0, 1, 0, 0}, make([]byte, 100)...),
		"a nought at the end": {129, 0, 0, 1, 0, 0}, "a nought at the end of 0": {1, 128, 0, 1, 0, 0}, "noughts at the end of a rule": {1, 0, 1, 129, 128, 0, 0}, "a nought at the end of the last": {1, 0, 1, 0, 128, 0},
		"cut off": {1, 0, 1, 0}, "cut off in a number": {1, 0, 1, 0, 129}, "cut off ahead of the last state": {1, 0, 2, 0, 0}, "cut off in a count": {129},
		"too great": {1, 0, 1, 128, 128, 128, 128, 128, 1, 0}, "so great that it would come round": {1, 0, 1, 128, 128, 128, 128, 128, 128, 128, 128, 128, 2, 0}, "greater still": {1, 0, 1, 128, 128, 128, 128, 128, 128, 128, 128, 128, 128, 1, 0},
		"so many classes that no room is left": {255, 255, 255, 255, 7, 0}, "so many states that no room is left": {1, 0, 255, 255, 255, 255, 7, 0, 0},
		"128 without an end": slices.Repeat([]byte{128}, 50), "255 without an end": slices.Repeat([]byte{255}, 50),
	} {
		if d, f := dfa.Read(b); !same(d, api.Dfa{}) || f != (api.Fault{Why: api.ErrDfa, At: 0}) {
			t.Error(name, d, f)
		}
	}
	if d, f := dfa.Read(nil); !same(d, api.Dfa{}) || f != (api.Fault{Why: api.ErrDfa}) {
		t.Error(d, f)
	}
}

func TestReadGoesAsTheWords(t *testing.T) {
	chance := rand.New(rand.NewSource(60))
	there := 0
	for range 20000 {
		b := bytesOf(someAuto(chance))
		for range chance.Intn(3) {
			at := chance.Intn(len(b))
			switch chance.Intn(5) {
			case 0:
				b[at] = byte(chance.Intn(256))
			case 1:
				b[at] = byte(chance.Intn(4))
			case 2:
				b = b[:at+1]
			case 3:
				b = slices.Insert(b, at, byte(chance.Intn(3)))
			case 4:
				b[at] |= 128
			}
		}
		if reads(t, b) {
			there++
		}
	}
	for range 20000 { // few small numbers are an automaton now and then
		b := make([]byte, 1+chance.Intn(9))
		for i := range b {
			b[i] = byte(chance.Intn(3))
		}
		if reads(t, b) {
			there++
		}
	}
	if there < 2000 || there > 38000 {
		t.Error("too few of one sort", there)
	}
}
