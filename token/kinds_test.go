package token_test

import (
	"fmt"
	"slices"
	"strings"
	"testing"

	"quoin/api"
	"quoin/token"
)

// P7.1: kinds, and what is found among names

// kinds are end, error and these.
func kinds(more ...string) []string { return append([]string{"end", "error"}, more...) }

// many are so many kinds.
func many(n int) []string {
	l := kinds()
	for len(l) < n {
		l = append(l, fmt.Sprint("k", len(l)))
	}
	return l[:n]
}

func testKinds(t *testing.T, names []string, want api.Errno) {
	t.Helper()
	if areKinds(names) != (want == api.OK) {
		t.Fatalf("the words say otherwise of %q", names)
	}
	if e := token.Kinds(names...); e != want {
		t.Errorf("Kinds(%.200q) = %v, not %v", names, e, want)
	}
}

func TestKinds(t *testing.T) {
	for _, names := range [][]string{
		kinds(), kinds("num"), kinds("a", "b"), kinds("_"), kinds("__", "_9"), kinds("A", "a"), kinds("Z", "z"),
		kinds("a0", "a9"), kinds("End", "ERROR", "end_", "_error"), kinds("ends", "en"), kinds("b", "a"),
	} {
		testKinds(t, names, api.OK)
	}
	for _, names := range [][]string{
		nil, {}, {"end"}, {"error"}, {"num"}, {""}, {"", ""}, {"error", "end"}, {"error", "end", "num"}, {"end", "end"}, {"error", "error"},
		{"end", "num"}, {"num", "error"}, {"end", "num", "error"}, {"num", "end", "error"}, {"End", "error"}, {"end", "Error"}, {"end ", "error"}, {"end", ""}, {"", "error"},
		kinds("end"), kinds("error"), kinds("num", "end"), kinds("num", "error"),
		kinds("a", "a"), kinds("a", "b", "a"), kinds("a", "b", "c", "b"),
		kinds(""), kinds("a", ""), kinds("", "a"), kinds("9x"), kinds("9"), kinds("0"), kinds("a", "9x"), kinds("9x", "a"),
		kinds("a b"), kinds(" a"), kinds("a "), kinds("a-b"), kinds("a\n"), kinds("a\x00"), kinds("\u00e9"), kinds("a\u00e9"), kinds("\xff"), kinds("a\xff"), kinds("\uff41"), kinds("a\u0661"),
	} {
		testKinds(t, names, api.ErrKind)
	}
}

// Every byte, as the first one of a name, behind it, and alone.
func TestBytesOfNames(t *testing.T) {
	for b := range 256 {
		c := string([]byte{byte(b)})
		for _, name := range []string{c, "a" + c, c + "a", "a" + c + "_", "_9" + c} {
			want := api.ErrKind
			if aName.MatchString(name) {
				want = api.OK
			}
			testKinds(t, kinds(name), want)
			testKinds(t, kinds("ok", name, "too"), want)
		}
	}
}

func TestLengthsOfNames(t *testing.T) {
	for _, unit := range []string{"a", "Z", "_"} {
		for size := range 200 {
			want := api.OK
			if size == 0 || size > 64 {
				want = api.ErrKind
			}
			testKinds(t, kinds(strings.Repeat(unit, size)), want)
		}
		testKinds(t, kinds(strings.Repeat(unit, 1<<20)), api.ErrKind)
	}
	testKinds(t, kinds("a"+strings.Repeat("9", 63)), api.OK)
	testKinds(t, kinds("a"+strings.Repeat("9", 64)), api.ErrKind)
	testKinds(t, kinds(strings.Repeat("a", 63)+"-"), api.ErrKind)
	testKinds(t, kinds(strings.Repeat("a", 63)+"b", strings.Repeat("a", 63)+"c", strings.Repeat("a", 63)), api.OK)
}

func TestManyKinds(t *testing.T) {
	for n, want := range map[int]api.Errno{2: api.OK, 3: api.OK, 1023: api.OK, 1024: api.OK, 1025: api.ErrKind, 1026: api.ErrKind, 5000: api.ErrKind} {
		testKinds(t, many(n), want)
	}
	last := many(1024)
	last[1023] = "k2"
	testKinds(t, last, api.ErrKind)
	last[1023] = "end"
	testKinds(t, last, api.ErrKind)
	last[1023] = "-"
	testKinds(t, last, api.ErrKind)
}

func TestFind(t *testing.T) {
	for _, x := range []struct {
		names []string
		name  string
		n     int
		there bool
	}{
		{kinds("num"), "end", 0, true}, {kinds("num"), "error", 1, true}, {kinds("num"), "num", 2, true}, {kinds("a", "b"), "b", 3, true},
		{kinds("num"), "nu", 0, false}, {kinds("num"), "nums", 0, false}, {kinds("num"), "Num", 0, false}, {kinds("num"), "", 0, false}, {kinds("num"), "num ", 0, false},
		{nil, "end", 0, false}, {nil, "", 0, false}, {[]string{}, "end", 0, false},
		{[]string{"a", "b", "a", "b"}, "b", 1, true}, {[]string{"a", "b", "a"}, "a", 0, true}, {[]string{"x", "y", "y", "y"}, "y", 1, true}, {[]string{"a", "b", "a", "b"}, "c", 0, false},
		{[]string{"", "9x", " ", ""}, "", 0, true}, {[]string{"", "9x", " ", ""}, " ", 2, true}, {[]string{"", "9x"}, "9x", 1, true}, {[]string{"error", "end"}, "end", 1, true}, {[]string{"\xff", "\xfe"}, "\xfe", 1, true},
		{[]string{"num"}, "num", 0, true}, {kinds("end"), "end", 0, true}, {kinds("error"), "error", 1, true},
	} {
		if n, there := token.Find(x.names, x.name); n != x.n || there != x.there {
			t.Errorf("Find(%q, %q) = %d, %v", x.names, x.name, n, there)
		}
	}
	l := many(5000)
	for i, name := range l {
		if n, there := token.Find(l, name); n != i || !there {
			t.Fatal(name, n, there)
		}
	}
	if n, there := token.Find(l, "k5000"); n != 0 || there {
		t.Error(n, there)
	}
	long := strings.Repeat("x", 1<<20)
	if n, there := token.Find([]string{long + "y", long, long}, strings.Clone(long)); n != 1 || !there {
		t.Error(n, there)
	}
}

// P7.3: the tokens of some kinds, and the kinds of tokens

func TestOnly(t *testing.T) {
	l := []api.Tok{{Kind: 2, From: 0, To: 1}, {Kind: 3, From: 1, To: 2}, {Kind: 2, From: 2, To: 2}, {Kind: 4, From: 2, To: 5}, {Kind: 3, From: 5, To: 6}}
	odd := []api.Tok{{Kind: 0, From: 9, To: 3}, {Kind: -5, From: -1, To: 2}, {Kind: 1}, {Kind: 7000, From: 1, To: 1 << 40}, {Kind: 0}, {Kind: -5}, {Kind: 0, From: 9, To: 3}}
	for _, x := range []struct {
		l     []api.Tok
		kinds []int
		want  []api.Tok
	}{
		{l, nil, nil}, {l, []int{}, nil}, {nil, nil, nil}, {nil, []int{2}, nil}, {[]api.Tok{}, []int{0, 1}, nil},
		{l, []int{2}, []api.Tok{l[0], l[2]}}, {l, []int{3}, []api.Tok{l[1], l[4]}}, {l, []int{4}, []api.Tok{l[3]}},
		{l, []int{4, 2}, []api.Tok{l[0], l[2], l[3]}}, {l, []int{2, 4}, []api.Tok{l[0], l[2], l[3]}}, {l, []int{4, 3, 2}, l},
		{l, []int{2, 2}, []api.Tok{l[0], l[2]}}, {l, []int{3, 2, 3, 2, 3}, []api.Tok{l[0], l[1], l[2], l[4]}},
		{l, []int{0}, nil}, {l, []int{1}, nil}, {l, []int{5, -1}, nil}, {l, []int{-2, 2, 1 << 40}, []api.Tok{l[0], l[2]}},
		{odd, []int{0}, []api.Tok{odd[0], odd[4], odd[6]}}, {odd, []int{-5}, []api.Tok{odd[1], odd[5]}}, {odd, []int{1, 7000}, []api.Tok{odd[2], odd[3]}}, {odd, []int{0, -5, 1, 7000}, odd},
	} {
		if m := token.Only(x.l, x.kinds...); !slices.Equal(m, x.want) {
			t.Errorf("Only(%v, %v) = %v, not %v", x.l, x.kinds, m, x.want)
		}
	}
}

func TestRow(t *testing.T) {
	for _, x := range []struct {
		l    []api.Tok
		want []int
	}{
		{nil, nil}, {[]api.Tok{}, nil}, {[]api.Tok{{}}, []int{0}},
		{[]api.Tok{{Kind: 2, From: 3, To: 4}, {Kind: 5, From: 6, To: 7}, {Kind: 2}}, []int{2, 5, 2}},
		{[]api.Tok{{Kind: -5, From: 9}, {Kind: 1 << 40, To: -1}, {Kind: 0, From: 1}, {Kind: 1}, {Kind: 0}}, []int{-5, 1 << 40, 0, 1, 0}},
	} {
		if m := token.Row(x.l); !slices.Equal(m, x.want) {
			t.Errorf("Row(%v) = %v, not %v", x.l, m, x.want)
		}
	}
}

// More of both than a row has.
func TestManyTokens(t *testing.T) {
	var l, even []api.Tok
	var all, some []int
	for i := range 100000 {
		l = append(l, api.Tok{Kind: i, From: i + 1})
		all = append(all, i)
		if i%2 == 0 {
			even = append(even, l[i])
			some = append(some, i)
		}
	}
	if !slices.Equal(token.Only(l, some...), even) || !slices.Equal(token.Row(l), all) {
		t.Error("of many tokens others are told")
	}
}
