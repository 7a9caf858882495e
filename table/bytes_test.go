package table_test

import (
	"math"
	"slices"
	"testing"

	"quoin/api"
	"quoin/table"
)

// P17.4: tables as bytes, and back.

func TestBytes(t *testing.T) {
	for text, want := range map[string][]byte{
		".":                                 {1, 1, 0, 0, 0},
		". .":                               {1, 2, 0, 0, 0, 0, 0},
		"acc | -":                           {1, 1, 1, 3, 0, 0},
		"s1 . r5 | 0 - 1; . acc r0 | 1 - -": {2, 3, 3, 1, 1, 0, 0, 2, 5, 1, 0, 2, 0, 0, 3, 0, 2, 0, 2, 0, 0},
		"s127 r128 | 126 127 128":           {1, 2, 3, 1, 127, 2, 128, 1, 127, 128, 1, 129, 1},
		"s16383 r16384 | 16382 16383":       {1, 2, 2, 1, 255, 127, 2, 128, 128, 1, 255, 127, 128, 128, 1},
	} {
		b, e := table.Bytes(tab(text))
		if e != api.OK || !slices.Equal(b, want) {
			t.Error(text, b, e)
		}
		if x, f := table.Read(want); f != (api.Fault{}) || told(x) != told(tab(text)) {
			t.Error(text, x, f)
		}
		likeBytes(t, tab(text))
		likeRead(t, want)
	}
}

// Tables that may not be have bytes, too, if Defaults takes them and their numbers are none below 0 and none too great.
func TestNumbersOfBytes(t *testing.T) {
	const most = 1<<31 - 1
	one := func(do, n, to int) api.Table {
		return api.Table{Moves: [][]api.Move{{{}, {Do: do, N: n}}}, Goto: [][]int{{-1, to}}}
	}
	for _, c := range []struct {
		do, n, to int
		is        bool
	}{
		{0, 0, -1, true},
		{4, 7, 9, true},
		{most, 0, 0, true},
		{most - 1, most - 1, most - 1, true},
		{0, most, 0, true},
		{most, most, most - 1, true},
		{0, 0, most - 1, true},
		{0, 0, most, false},
		{0, 0, most + 1, false},
		{0, 0, math.MaxInt - 1, false},
		{0, 0, math.MaxInt, false},
		{0, 0, -2, false},
		{0, 0, math.MinInt, false},
		{most + 1, 0, 0, false},
		{math.MaxInt, 0, 0, false},
		{-1, 0, 0, false},
		{-2, 0, 0, false},
		{math.MinInt, 0, 0, false},
		{0, most + 1, 0, false},
		{0, math.MaxInt, 0, false},
		{0, -1, 0, false},
		{0, -2, 0, false},
		{0, math.MinInt, 0, false},
		{1 << 32, 0, 0, false},
		{0, 1 << 32, 0, false},
		{0, 0, 1<<32 - 1, false},
	} {
		x := one(c.do, c.n, c.to)
		b, e := table.Bytes(x)
		if c.is && e != api.OK || !c.is && (e != api.ErrTable || len(b) > 0) {
			t.Error(c, b, e)
		}
		likeBytes(t, x)
	}
	for text, want := range map[string][]byte{ // the greatest numbers, in all their bytes
		"s2147483647 | -": {1, 1, 1, 1, 255, 255, 255, 255, 7, 0},
		". | 2147483646":  {1, 1, 1, 0, 0, 255, 255, 255, 255, 7},
	} {
		b, e := table.Bytes(tab(text))
		x, f := table.Read(want)
		if e != api.OK || !slices.Equal(b, want) || f != (api.Fault{}) || told(x) != told(tab(text)) {
			t.Error(text, b, e, x, f)
		}
	}
}

func TestNoBytes(t *testing.T) {
	for what, wrong := range wrongTables() {
		x := right()
		wrong.turn(&x)
		if b, e := table.Bytes(x); !wrong.isEven && (e != api.ErrTable || len(b) > 0) {
			t.Error(what, b, e)
		}
		likeBytes(t, x)
	}
}

// What is read is what Bytes writes, and nothing else.
func TestNoRead(t *testing.T) {
	for what, b := range map[string][]byte{
		"nothing":                        nil,
		"nothing, that is there":         {},
		"no state":                       {0},
		"no state, with counts":          {0, 1, 0},
		"no state, with all":             {0, 2, 1, 0, 0, 0, 0, 0},
		"no kind":                        {1, 0, 0},
		"no kind, with Gotos":            {1, 0, 1, 0},
		"counts alone":                   {1, 1, 0},
		"a count alone":                  {1},
		"two counts alone":               {1, 2},
		"a move cut short":               {1, 1, 0, 0},
		"a Goto too few":                 {1, 1, 1, 0, 0},
		"a number cut short":             {1, 1, 1, 0, 0, 128},
		"a byte more":                    {1, 1, 1, 0, 0, 0, 0},
		"a table more":                   {1, 1, 0, 0, 0, 1, 1, 0, 0, 0},
		"a nought at the end of a count": {129, 0, 1, 0, 0, 0},
		"one of a move":                  {1, 1, 0, 129, 0, 0},
		"one of an N":                    {1, 1, 0, 1, 129, 0},
		"one of a Goto":                  {1, 1, 1, 0, 0, 129, 0},
		"two noughts":                    {1, 1, 1, 0, 0, 129, 128, 0},
		"a longer 0":                     {1, 1, 1, 0, 0, 128, 0},
		"2^31 as N":                      {1, 1, 0, 0, 128, 128, 128, 128, 8},
		"2^31 as Do":                     {1, 1, 0, 128, 128, 128, 128, 8, 0},
		"2^31 as a Goto":                 {1, 1, 1, 0, 0, 128, 128, 128, 128, 8},
		"2^35 as N":                      {1, 1, 0, 0, 128, 128, 128, 128, 128, 1},
		"2^63 as N":                      {1, 1, 0, 0, 128, 128, 128, 128, 128, 128, 128, 128, 128, 1},
		"2^64 as N":                      {1, 1, 0, 0, 128, 128, 128, 128, 128, 128, 128, 128, 128, 2},
		"2^70 as N":                      {1, 1, 0, 0, 128, 128, 128, 128, 128, 128, 128, 128, 128, 128, 1},
		"more states than bytes":         {5, 1, 0, 0, 0, 0, 0},
		"the most states":                {255, 255, 255, 255, 7, 1, 0, 0, 0},
		"the most kinds":                 {1, 255, 255, 255, 255, 7, 0, 0, 0},
		"the most rules":                 {1, 1, 255, 255, 255, 255, 7, 0, 0, 0},
		"the most of all":                {255, 255, 255, 255, 7, 255, 255, 255, 255, 7, 255, 255, 255, 255, 7, 0, 0},
		"too many states":                {128, 128, 128, 128, 8, 1, 0, 0, 0},
		"a row too few":                  {2, 1, 1, 0, 0, 0},
		"half a row too few":             {2, 1, 1, 0, 0, 0, 0, 0},
		"half a row more":                {2, 1, 1, 0, 0, 0, 0, 0, 0, 0},
	} {
		if x, f := table.Read(b); f != (api.Fault{Why: api.ErrTable}) || told(x) != told(api.Table{}) {
			t.Error(what, x, f)
		}
		if likeRead(t, b) {
			t.Error("the test is wrong:", what)
		}
	}
}

// Each beginning of a table's bytes is none's, and so are they with anything behind.
func TestCutShort(t *testing.T) {
	m := newMaker(1050)
	for range 200 {
		g := m.grammar()
		x, _ := m.solved(t, g)
		b, e := table.Bytes(x)
		if e != api.OK || !likeRead(t, b) {
			t.Fatal(x, b, e)
		}
		for n := range b {
			if y, f := table.Read(b[:n]); f != (api.Fault{Why: api.ErrTable}) || told(y) != told(api.Table{}) {
				t.Fatal(b[:n], y, f)
			}
		}
		for _, more := range []byte{0, 1, 127, 128, 255} {
			if y, f := table.Read(append(slices.Clone(b), more)); f != (api.Fault{Why: api.ErrTable}) || told(y) != told(api.Table{}) {
				t.Fatal(b, more, y, f)
			}
		}
	}
}

// All short rows of a few bytes.
func TestAllShortBytes(t *testing.T) {
	alphabet := []byte{0, 1, 2, 127, 128, 129, 255}
	l := [][]byte{nil}
	often := 0
	for at := 0; at < len(l); at++ {
		if likeRead(t, l[at]) {
			often++
		}
		for _, x := range alphabet {
			if len(l[at]) < 6 {
				l = append(l, append(slices.Clone(l[at]), x))
			}
		}
	}
	if often < 50 {
		t.Error("too few:", often)
	}
}

// Bytes of tables with something turned, left out or put in.
func TestTurnedBytes(t *testing.T) {
	m := newMaker(1051)
	var often [2]int
	for range 60000 {
		x := m.table(1+m.Intn(3), m.Intn(3), m.Intn(3))
		for m.Intn(2) == 0 {
			x.Moves[0][0].N = m.Intn(1 << m.Intn(31))
		}
		b, _ := table.Bytes(x)
		for range 1 + m.Intn(2) {
			at := m.Intn(len(b))
			switch m.Intn(4) {
			case 0:
				b = slices.Delete(b, at, at+1)
			case 1:
				b = slices.Insert(b, at, byte(m.Intn(256)))
			default:
				b[at] = []byte{0, 1, 2, 3, 7, 8, 127, 128, 129, 255}[m.Intn(10)]
			}
		}
		if likeRead(t, b) {
			often[1]++
		} else {
			often[0]++
		}
	}
	if slices.Min(often[:]) < 5000 {
		t.Error(often)
	}
}

// P17.8: what is read is the table, whatever numbers it has.
func TestThereAndBack(t *testing.T) {
	m := newMaker(1052)
	is := 0
	for range 10000 {
		x := m.table(1+m.Intn(4), m.Intn(4), m.Intn(4))
		for range m.Intn(4) {
			row := x.Moves[m.Intn(len(x.Moves))]
			row[m.Intn(len(row))] = api.Move{Do: m.number(), N: m.number()}
		}
		likeBytes(t, x)
		if _, e := table.Bytes(x); e == api.OK {
			is++
		}
	}
	if is < 3000 || is > 9000 {
		t.Error(is)
	}
}
