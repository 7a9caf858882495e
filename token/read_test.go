package token_test

import (
	"math/rand"
	"slices"
	"strings"
	"testing"

	"quoin/api"
	"quoin/token"
)

// P7.2: the row of lines; P7.5: there and back

func wrongLine(n int) api.Fault { return api.Fault{Why: api.ErrForm, At: n} }

func testRead(t *testing.T, names []string, src, lines string, want []api.Tok, f api.Fault) {
	t.Helper()
	if l, got := token.Read(names, src, lines); !slices.Equal(l, want) || got != f {
		t.Errorf("Read(%.100q, %.100q, %.300q) = %d tokens, %v, not %d, %v", names, src, lines, len(l), got, len(want), f)
	}
}

func TestRead(t *testing.T) {
	names := kinds("num", "id")
	for _, x := range []struct {
		src, lines string
		want       []api.Tok
	}{
		{"", "", nil}, {"12", "", nil},
		{"12", "num 0 2 \"12\"\n", toks(tok(2, 0, 2))},
		{"12 x", "num 0 2 \"12\"\nid 3 4 \"x\"\n", toks(tok(2, 0, 2), tok(3, 3, 4))},
		{"", "id 0 0 \"\"\n", toks(tok(3, 0, 0))},
		{"ab", "id 0 0 \"\"\nid 1 1 \"\"\nnum 1 2 \"b\"\nnum 2 2 \"\"\nnum 2 2 \"\"\n", toks(tok(3, 0, 0), tok(3, 1, 1), tok(2, 1, 2), tok(2, 2, 2), tok(2, 2, 2))},
		{"a  b", "id 0 4 \"a  b\"\n", toks(tok(3, 0, 4))},
		{"   ", "id 0 3 \"   \"\n", toks(tok(3, 0, 3))},
		{"\"\\\n\t\r\x01", `num 0 6 "\"\\\n\t\r\x01"` + "\n", toks(tok(2, 0, 6))},
		{"\u00e9\xff", "id 0 3 \"\u00e9\\xff\"\n", toks(tok(3, 0, 3))},
		{"\u00e9", `id 0 1 "\xc3"` + "\n" + `id 1 2 "\xa9"` + "\n", toks(tok(3, 0, 1), tok(3, 1, 2))},
		{strings.Repeat("x", 101), "num 9 10 \"x\"\nid 99 101 \"xx\"\n", toks(tok(2, 9, 10), tok(3, 99, 101))},
	} {
		testRead(t, names, x.src, x.lines, x.want, api.Fault{})
	}
}

func TestReadOfKinds(t *testing.T) {
	for _, names := range [][]string{nil, {"end"}, {"error", "end"}, kinds("9x"), kinds("num", "num"), many(1025)} {
		for _, lines := range []string{"", "num 0 2 \"12\"\n", "?", "\n"} {
			testRead(t, names, "12", lines, nil, api.Fault{Why: api.ErrKind})
		}
	}
	testRead(t, kinds(), "12", "", nil, api.Fault{})
	testRead(t, kinds(), "12", "num 0 2 \"12\"\n", nil, wrongLine(0))
	testRead(t, many(1024), "12", "k1023 0 2 \"12\"\nk2 2 2 \"\"\n", toks(tok(1023, 0, 2), tok(2, 2, 2)), api.Fault{})
	testRead(t, many(1024), "12", "k1023 0 2 \"12\"\nk1024 2 2 \"\"\n", nil, wrongLine(1))
}

// wrongLines are lines that are none over `1 "2` and é, with num and id as kinds.
var wrongLines = []string{
	"\n", " \n", "num\n", "num \n", "num 0\n", "num 0 \n", "num 0 1\n", "num 0 1 \n", "0 1 \"1\"\n", "\r\n",
	"num 0 1 \"1\"", "num 0 1 \"1\"\r\n", "num 0 1 \"1\" \n", "num 0 1 \"1\"x\n", "num 0 1 \"1\"\"\n", "num 0 1 \"1\" \"1\"\n", "num 0 1 \"1\n", "num 0 1 1\"\n", "num 0 1 1\n", "num 0 1 '1'\n", "num 0 1 `1`\n",
	" num 0 1 \"1\"\n", "num  0 1 \"1\"\n", "num 0  1 \"1\"\n", "num 0 1  \"1\"\n", "num\t0 1 \"1\"\n", "num 0\t1 \"1\"\n", "num 0 1\t\"1\"\n", "num0 1 \"1\"\n", "num 01 \"1\"\n", "num 0 1\"1\"\n", "num,0,1,\"1\"\n",
	"num +0 1 \"1\"\n", "num 0 +1 \"1\"\n", "num -0 1 \"1\"\n", "num -1 1 \"1\"\n", "num 0 -1 \"\"\n", "num -1 -1 \"\"\n", "num 00 1 \"1\"\n", "num 0 01 \"1\"\n", "num 0 1_ \"1\"\n", "num 0 0x1 \"1\"\n", "num 0 1.0 \"1\"\n", "num 0 1e0 \"1\"\n", "num a 1 \"1\"\n", "num 0 b \"1\"\n", "num \u0660 1 \"1\"\n", "num 0 \uff11 \"1\"\n",
	"num 0 7 \"1 \\\"2\u00e9\"\n", "num 6 7 \"\"\n", "num 7 7 \"\"\n", "num 0 99999999999999999999 \"1\"\n", "num 99999999999999999999 1 \"1\"\n", "num 0 9223372036854775807 \"1\"\n", "num 0 9223372036854775808 \"1\"\n", "num 0 18446744073709551617 \"1\"\n", "num 18446744073709551616 18446744073709551617 \"1\"\n", "num -9223372036854775808 1 \"1\"\n", "num 1 0 \"\"\n", "num 1 0 \"1\"\n", "num 4 3 \"\"\n",
	"num 0 1 \"2\"\n", "num 0 1 \"\"\n", "num 0 1 \"1 \"\n", "num 0 2 \"1\"\n", "num 1 2 \"1\"\n", "num 0 0 \"1\"\n", "num 0 1 \"11\"\n",
	"num 0 1 \"\\x31\"\n", "num 0 1 \"\\u{31}\"\n", "num 2 3 \"\"\"\n", "num 2 3 \"\\x22\"\n", "num 4 6 \"\\u{e9}\"\n", "num 4 6 \"\\xc3\\xa9\"\n", "num 4 5 \"\xc3\"\n", "num 4 5 \"\\xC3\"\n", "num 4 5 \"\u00e9\"\n", "num 1 2 \"\\x20\"\n",
	"nums 0 1 \"1\"\n", "nu 0 1 \"1\"\n", "Num 0 1 \"1\"\n", " 0 1 \"1\"\n", "2 0 1 \"1\"\n", "\"num\" 0 1 \"1\"\n", "end 0 1 \"1\"\n", "error 0 1 \"1\"\n", "end 6 6 \"\"\n", "end 0 0 \"\"\n", "error 0 0 \"\"\n", "num\x00 0 1 \"1\"\n",
	"?\n", "num 0 1 \"1\"num 1 2 \" \"\n", "# num 0 1 \"1\"\n", "\xff\n",
}

// One wrong line: alone, behind right ones, ahead of right and of wrong ones.
func TestReadRefuses(t *testing.T) {
	names, src := kinds("num", "id"), "1 \"2\u00e9"
	ahead := "id 0 0 \"\"\n"
	testRead(t, names, src, ahead+ahead+"num 0 1 \"1\"\n", toks(tok(3, 0, 0), tok(3, 0, 0), tok(2, 0, 1)), api.Fault{})
	for _, line := range wrongLines {
		for n := range 3 {
			begun := strings.Repeat(ahead, n)
			testRead(t, names, src, begun+line, nil, wrongLine(n))
			if strings.HasSuffix(line, "\n") {
				for _, rest := range []string{"num 5 6 \"\\xa9\"\n", "num 0 1 \"1\"\n", "\n", "?", line} {
					testRead(t, names, src, begun+line+rest, nil, wrongLine(n))
				}
			}
		}
	}
}

// The last byte 10 is missing, wherever the lines are cut off.
func TestReadOfCutLines(t *testing.T) {
	names, src := kinds("num", "id"), "1 \"2\u00e9"
	l := toks(tok(2, 0, 1), tok(3, 2, 3), tok(3, 3, 4), tok(2, 4, 6))
	lines, _ := token.Lines(names, src, l)
	for end := range len(lines) + 1 {
		whole := strings.Count(lines[:end], "\n")
		if end == 0 || lines[end-1] == '\n' {
			testRead(t, names, src, lines[:end], l[:whole], api.Fault{})
		} else {
			testRead(t, names, src, lines[:end], nil, wrongLine(whole))
		}
	}
}

// Lines that are right by themselves, but not behind the one ahead.
func TestReadOfNeighbours(t *testing.T) {
	names, src := kinds("a"), "xyz"
	line := func(l ...api.Tok) string {
		lines := ""
		for _, one := range l {
			s, e := token.Lines(names, src, toks(one))
			if e != api.OK {
				t.Fatal(one, e)
			}
			lines += s
		}
		return lines
	}
	testRead(t, names, src, line(tok(2, 0, 2), tok(2, 2, 3)), toks(tok(2, 0, 2), tok(2, 2, 3)), api.Fault{})
	testRead(t, names, src, line(tok(2, 0, 2), tok(2, 1, 3)), nil, wrongLine(1))
	testRead(t, names, src, line(tok(2, 0, 2), tok(2, 0, 2)), nil, wrongLine(1))
	testRead(t, names, src, line(tok(2, 0, 2), tok(2, 1, 1)), nil, wrongLine(1))
	testRead(t, names, src, line(tok(2, 1, 1), tok(2, 0, 1)), nil, wrongLine(1))
	testRead(t, names, src, line(tok(2, 0, 1), tok(2, 2, 3), tok(2, 1, 2)), nil, wrongLine(2))
	testRead(t, names, src, line(tok(2, 0, 1), tok(2, 2, 3), tok(2, 1, 2), tok(2, 0, 0)), nil, wrongLine(2))
}

func TestReadOfLongTokens(t *testing.T) {
	names := kinds("a")
	for _, x := range []struct{ unit, quoted string }{{"x", "x"}, {"\n", `\n`}, {"\xff", `\xff`}} {
		src := strings.Repeat(x.unit, 5000)
		most := "a 0 4096 \"" + strings.Repeat(x.quoted, 4096) + "\"\n"
		testRead(t, names, src, most, toks(tok(2, 0, 4096)), api.Fault{})
		testRead(t, names, src, "a 0 4097 \""+strings.Repeat(x.quoted, 4097)+"\"\n", nil, wrongLine(0))
		testRead(t, names, src, most+"a 4096 5000 \""+strings.Repeat(x.quoted, 904)+"\"\n", toks(tok(2, 0, 4096), tok(2, 4096, 5000)), api.Fault{})
		testRead(t, names, src, "a 0 0 \"\"\na 0 5000 \""+strings.Repeat(x.quoted, 5000)+"\"\n", nil, wrongLine(1))
		testRead(t, names, src, "a 0 5000 \"\"\n", nil, wrongLine(0))
	}
}

func TestReadOfManyLines(t *testing.T) {
	names, line := kinds("a"), "a 0 0 \"\"\n"
	var l []api.Tok
	for range 65536 {
		l = append(l, tok(2, 0, 0))
	}
	most := strings.Repeat(line, 65536)
	testRead(t, names, "", most[len(line):], l[1:], api.Fault{})
	testRead(t, names, "", most, l, api.Fault{})
	for _, more := range []string{line, line + line, line + "?\n", "\n", "?", "a 0 0 \"\"", most} {
		testRead(t, names, "", most+more, nil, wrongLine(65536))
	}
	testRead(t, names, "", "?\n"+most+line, nil, wrongLine(0))
	testRead(t, names, "", line+line+"\n"+most+line, nil, wrongLine(2))
	testRead(t, names, "", most[len(line):]+"?\n"+line+line, nil, wrongLine(65535))
	testRead(t, names, "", most[:len(most)-1], nil, wrongLine(65535))
}

// spoiled are lines with something changed.
func spoiled(chance *rand.Rand, lines string) string {
	bits := []string{" ", "\n", "\"", "\\", "0", "1", "2", "3", "-", "+", "a", "b", "x", "end", "error", "\\n", "\\x0a", "\xff", "a 0 0 \"\"\n", "b 1 2 \"b\"\n"}
	from := chance.Intn(len(lines) + 1)
	to := min(len(lines), from+chance.Intn(3))
	switch chance.Intn(5) {
	case 0:
		return lines[:from] + lines[to:]
	case 1:
		return lines[:from] + bits[chance.Intn(len(bits))] + lines[to:]
	case 2:
		return lines[:from] + bits[chance.Intn(len(bits))] + lines[from:]
	case 3:
		whole := strings.SplitAfter(lines, "\n")
		i, k := chance.Intn(len(whole)), chance.Intn(len(whole))
		whole[i], whole[k] = whole[k], whole[i]
		return strings.Join(whole, "")
	}
	return lines
}

// Read tells just the rows whose lines there are, and the first line with which no beginning of such ends: all rows over short texts, and lines that were changed.
func TestReadOfEveryRow(t *testing.T) {
	chance := rand.New(rand.NewSource(72))
	for _, src := range []string{"", "a", "a\"", "\n ", "\u00e9", "b\xff", "a b"} {
		names := kinds("a", "b")
		all := rowsOver(names, src, 3)
		var some []string
		for lines, l := range all {
			testRead(t, names, src, lines, l, api.Fault{})
			testLines(t, names, src, l, lines, api.OK)
			some = append(some, lines)
		}
		slices.Sort(some)
		for range 30000 {
			lines := some[chance.Intn(len(some))]
			for range 1 + chance.Intn(3) {
				lines = spoiled(chance, lines)
			}
			if strings.Count(lines, "\n") > 3 {
				continue // there are longer rows than all has
			}
			want, f := meantBy(all, lines)
			testRead(t, names, src, lines, want, f)
		}
	}
}

// P7.5: of longer rows of any bytes.
func TestThereAndBack(t *testing.T) {
	chance := rand.New(rand.NewSource(73))
	for range 3000 {
		b := make([]byte, chance.Intn(60))
		for i := range b {
			b[i] = []byte("a\"\\\n \x00\xff\xc3\xa9z")[chance.Intn(10)]
		}
		src, names := string(b), many(3+chance.Intn(20))
		var l []api.Tok
		for at := 0; at < len(src); {
			from := at + chance.Intn(3)
			at = from + chance.Intn(4)
			if at <= len(src) {
				l = append(l, tok(2+chance.Intn(len(names)-2), from, at))
			}
		}
		lines, e := token.Lines(names, src, l)
		want, why := lined(names, src, l)
		if lines != want || e != why || e != api.OK {
			t.Fatalf("%q, %v, not %q, %v", lines, e, want, why)
		}
		back, f := token.Read(names, src, lines)
		if !slices.Equal(back, l) || f != (api.Fault{}) {
			t.Fatal(back, f)
		}
		if again, e := token.Lines(names, src, back); again != lines || e != api.OK {
			t.Fatal(again, e)
		}
	}
}
