package short_test

import (
	"bytes"
	"math/rand"
	"testing"

	"quoin/short"
)

// What layers have in common of numbers as bytes.

func TestNumbers(t *testing.T) {
	for n, want := range map[int][]byte{
		0:             {0},
		1:             {1},
		127:           {127},
		128:           {128, 1},
		129:           {129, 1},
		1<<14 - 1:     {255, 127},
		1 << 14:       {128, 128, 1},
		1<<21 - 1:     {255, 255, 127},
		1 << 21:       {128, 128, 128, 1},
		1<<28 - 1:     {255, 255, 255, 127},
		1 << 28:       {128, 128, 128, 128, 1},
		short.Max - 1: {254, 255, 255, 255, 7},
		short.Max:     {255, 255, 255, 255, 7},
	} {
		if b := short.Append([]byte{9}, n); !bytes.Equal(b, append([]byte{9}, want...)) {
			t.Error(n, b)
		}
		r := short.NewReader(append(want, 5))
		if got, more := r.Number(), r.Number(); got != n || more != 5 || !r.IsDone() {
			t.Error(n, got, more)
		}
	}
	if short.Max != 2147483647 {
		t.Error(short.Max)
	}
}

// Of what is no number, and of all behind it, there is 0; it is never done.
func TestNoNumbers(t *testing.T) {
	for what, b := range map[string][]byte{
		"nothing":              {},
		"cut short":            {128},
		"cut short in the end": {255, 255, 255, 255},
		"a nought at the end":  {128, 0, 3},
		"two of them":          {129, 128, 0, 3},
		"2^31":                 {128, 128, 128, 128, 8, 3},
		"2^32":                 {128, 128, 128, 128, 16, 3},
		"2^35":                 {128, 128, 128, 128, 128, 1, 3},
		"2^70":                 {128, 128, 128, 128, 128, 128, 128, 128, 128, 128, 1, 3},
		"no end":               bytes.Repeat([]byte{255}, 100),
	} {
		r := short.NewReader(b)
		if n := r.Number(); n != 0 || r.IsDone() {
			t.Error(what, n)
		}
		if n := r.Number(); n != 0 || r.IsDone() || r.Fit(1, 1) {
			t.Error(what, n)
		}
	}
}

func TestDone(t *testing.T) {
	r := short.NewReader([]byte{1, 2})
	if r.IsDone() || r.Number() != 1 || r.IsDone() || r.Number() != 2 || !r.IsDone() {
		t.Error("it is done at its end alone")
	}
	if r.Number() != 0 || r.IsDone() {
		t.Error("what is read behind the end is wrong")
	}
	if !short.NewReader(nil).IsDone() {
		t.Error("nothing is done")
	}
}

// So many things fit in if there are as many bytes.
func TestFit(t *testing.T) {
	for _, c := range []struct {
		count, size int
		is          bool
	}{
		{0, 1, true}, {6, 1, true}, {7, 1, false}, {3, 2, true}, {4, 2, false}, {2, 3, true}, {1, 4, true}, {2, 4, false},
		{1, 6, true}, {1, 7, false}, {0, 7, true}, {short.Max, 1, false}, {1, 3 * short.Max, false}, {short.Max, 3 * short.Max, false},
	} {
		r := short.NewReader([]byte{7, 1, 2, 3, 4, 5, 6})
		r.Number()
		if r.Fit(c.count, c.size) != c.is {
			t.Error(c)
		}
		if n := r.Number(); n > 0 != c.is {
			t.Error(c, n)
		}
	}
}

func TestThereAndBack(t *testing.T) {
	random := rand.New(rand.NewSource(1))
	for range 5000 {
		var b []byte
		var l []int
		for range random.Intn(6) {
			l = append(l, random.Intn(1<<random.Intn(32)))
			b = short.Append(b, l[len(l)-1])
		}
		r := short.NewReader(b)
		for _, n := range l {
			if got := r.Number(); got != n {
				t.Fatal(l, got)
			}
		}
		if !r.IsDone() {
			t.Fatal(l)
		}
	}
}
