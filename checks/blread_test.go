package checks

import (
	"fmt"
	"math"
	"strings"
	"testing"

	"usufruct/api"
	"usufruct/bl"
	"usufruct/blread"
)

func TestP2101Read(t *testing.T) {
	t.Parallel()
	m, f := blread.Read(everyBlText)
	is(t, "fault", f, api.OK)
	equal(t, "a program with each operation", m, everyBl())
	m, f = blread.Read("fn main() -> int {\n  var int\n  0 num x0 7\n  1 ret x0\n}\n")
	is(t, "the example", fmt.Sprint(f, len(m.Funcs), m.Funcs[0].Name, len(m.Funcs[0].Ins)), "0 1main2")
	for _, s := range []string{"", "\n", "}\n", "fn", "fn \n", "fn main\n", "fn main() -> int {\n", "fn main() -> int {\n}\n", "struct\n", "struct S {\n", "struct S {\n}\n", " ", "x"} {
		m, f := blread.Read(s)
		is(t, fmt.Sprintf("%q", s), f, api.Odd)
		equal(t, "nothing", m, api.Module{})
	}
	// One thing of the text changed each time.
	for _, c := range [][2]string{
		{"struct S {", "struct S  {"}, {"struct S {", "struct S{"}, {"struct S {", " struct S {"}, {"struct S {", "struct S { "}, {"struct S {", "struct int {"}, {"struct S {", "struct T {"},
		{"  v int\n", " v int\n"}, {"  v int\n", "  v int \n"}, {"  v int\n", "  v\n"}, {"  v int\n", "  v U\n"}, {"  v int\n", "  v int int\n"}, {"  n S\n", "  v S\n"}, {"  n S\n", "\tn S\n"},
		{"fn g(share S, int)", "fn g(share S,int)"}, {"fn g(share S, int)", "fn g( share S, int)"}, {"fn g(share S, int)", "fn g(share S, int,)"}, {"fn g(share S, int)", "fn g(share S)"}, {"fn g(", "fn  g("}, {"fn g(", "fn g ("},
		{"fn g(share S, int)", "fn g(plain S, int)"}, {"fn g(share S, int)", "fn g(share S, own)"}, {"fn g(share S, int)", "fn g(share, int)"}, {" -> share T from 0 {", " -> share T from {"}, {" -> share T from 0 {", " -> share T from 1 {"},
		{" -> share T from 0 {", " -> share T from 0 0 {"}, {" -> share T from 0 {", " -> share T from 00 {"}, {" -> share T from 0 {", " -> share T from +0 {"}, {" -> share T from 0 {", " -> share T from 0"}, {" -> share T from 0 {", " -> share T from 0 { {"},
		{" -> share T from 0 {", " -> own T from 0 {"}, {" -> share T", "-> share T"}, {"  var share T\n", "  var share\n"}, {"  var share T\n", "  share T\n"}, {"  var share T\n", "  var share T T\n"}, {"  var share T\n", ""},
		{"  0 take x2 share x0 t\n", "  1 take x2 share x0 t\n"}, {"  0 take x2 share x0 t\n", "  take x2 share x0 t\n"}, {"  0 take x2 share x0 t\n", "  00 take x2 share x0 t\n"}, {"  0 take x2 share x0 t\n", "  0 take x2 x0 t\n"},
		{"  0 take x2 share x0 t\n", "  0 take x2 share x0 n\n"}, {"  0 take x2 share x0 t\n", "  0 take x2 share x0 q\n"}, {"  0 take x2 share x0 t\n", "  0 take x2 plain x0 t\n"}, {"  0 take x2 share x0 t\n", "  0 take x2 share x1 v\n"},
		{"  0 take x2 share x0 t\n", "  0 take x2 share x9 t\n"}, {"  0 take x2 share x0 t\n", "  0 take x2 share x3 t\n"}, {"  1 ret share x2\n", "  1 ret x2\n"}, {"  1 ret share x2\n", "  1 ret share\n"}, {"  1 ret share x2\n", "  1 ret share x2 x2\n"}, {"  1 ret share x2\n", "  1 ret\n"}, {"  1 ret share x2\n", ""},
		{"  0 num x0 7\n", "  0 num x0 07\n"}, {"  0 num x0 7\n", "  0 num x0 +7\n"}, {"  0 num x0 7\n", "  0 num x0\n"}, {"  0 num x0 7\n", "  0 num x0 7 7\n"}, {"  0 num x0 7\n", "  0 num x00 7\n"}, {"  0 num x0 7\n", "  0 num 0 7\n"},
		{"  0 num x0 7\n", "  0 num x5 7\n"}, {"  0 num x0 7\n", "  0 num x0 9223372036854775808\n"}, {"  0 num x0 7\n", "  0 num x0 -0\n"}, {"  0 num x0 7\n", "  0 nun x0 7\n"}, {"  0 num x0 7\n", "  0 num x0 seven\n"}, {"  0 num x0 7\n", "  0\n"},
		{"  1 null x2\n", "  1 null x0\n"}, {"  1 null x2\n", "  1 null x2 x2\n"}, {"  1 null x2\n", "  1  null x2\n"}, {"  1 null x2\n", "  1 null  x2\n"}, {"  1 null x2\n", "1 null x2\n"}, {"  1 null x2\n", "\n"}, {"  1 null x2\n", "  }\n"},
		{"  2 copy x4 x0\n", "  2 copy x4\n"}, {"  3 bin x0 x0 + x4\n", "  3 bin x0 x0 & x4\n"}, {"  3 bin x0 x0 + x4\n", "  3 bin x0 + x0 x4\n"}, {"  7 load x0 x1 v\n", "  7 load x0 x1 n\n"}, {"  7 load x0 x1 v\n", "  7 load x0 x0 v\n"},
		{"  8 store x1 v x0\n", "  8 store x1 x0 v\n"}, {"  9 give x2 mut x1\n", "  9 give x2 Mut x1\n"}, {"  9 give x2 mut x1\n", "  9 give x2 mut mut x1\n"}, {"  6 new x1 S\n", "  6 new x1 T\n"}, {"  6 new x1 S\n", "  6 new x1 Q\n"},
		{"  12 isnull x4 == x2\n", "  12 isnull x4 < x2\n"}, {"  13 call x3 g share x1 x4\n", "  13 call x3 h share x1 x4\n"}, {"  13 call x3 g share x1 x4\n", "  13 call x3 g x1 x4\n"}, {"  13 call x3 g share x1 x4\n", "  13 call x3 g share x1\n"},
		{"  13 call x3 g share x1 x4\n", "  13 call x3 g share x1 share x4\n"}, {"  13 call x3 g share x1 x4\n", "  13 call x3 g share x1 plain x4\n"}, {"  13 call x3 g share x1 x4\n", "  13 call x3 g share x1 x4 share\n"},
		{"  14 branch x4 15 16\n", "  14 branch x4 15\n"}, {"  14 branch x4 15 16\n", "  14 branch x4 15 18\n"}, {"  14 branch x4 15 16\n", "  14 branch x4 -1 16\n"}, {"  15 jump 0\n", "  15 jump 99\n"}, {"  15 jump 0\n", "  15 jump x0\n"},
		{"fn main()", "fn Main()"}, {"fn main()", "fn g()"}, {"  17 ret x0\n}\n", "  17 ret x0\n}"}, {"  17 ret x0\n}\n", "  17 ret x0\n"}, {"  17 ret x0\n}\n", "  17 ret x0\n}\n\n"}, {"  17 ret x0\n}\n", "  17 ret x0\n} \n"}, {"  17 ret x0\n}\n", "  17 ret x0\n}\nfn\n"},
		{"  17 ret x0\n}\n", "  17 ret x0\n}\nstruct U {\n}\n"}, {"\n  1 ret share x2", "\r\n  1 ret share x2"}, {"  v int\n}\nfn", "  v int\n}\n\nfn"},
	} {
		if !strings.Contains(everyBlText, c[0]) {
			t.Fatal("not in the text: ", c[0])
		}
		m, f := blread.Read(strings.Replace(everyBlText, c[0], c[1], 1))
		is(t, fmt.Sprintf("%q in the place of %q", c[1], c[0]), f, api.Odd)
		equal(t, "nothing", m, api.Module{})
	}
	for _, c := range [][2]string{{"  0 num x0 7\n", "  0 num x0 -9223372036854775808\n"}, {"struct T {\n  v int\n", "struct T {\n  v int\n  own S\n"}, {"  15 jump 0\n", "  15 jump 17\n"}, {"  12 isnull x4 == x2\n", "  12 isnull x4 != x2\n"}} {
		s := strings.Replace(everyBlText, c[0], c[1], 1)
		m, f := blread.Read(s)
		is(t, s, fmt.Sprint(f, bl.Text(m) == s), "0 true")
	}
}

func TestP2101Size(t *testing.T) {
	t.Parallel()
	_, f := blread.Read(strings.Repeat("x", api.MaxText+1))
	is(t, "too many bytes", f, api.TooLarge)
	_, f = blread.Read(strings.Repeat("x", api.MaxText))
	is(t, "as many as may be", f, api.Odd)
	_, f = blread.Read(strings.Repeat("\n", api.MaxText))
	is(t, "as many lines as may be", f, api.Odd)
	_, f = blread.Read(everyBlText + strings.Repeat(" ", api.MaxText))
	is(t, "too many bytes behind", f, api.TooLarge)
}

func TestP2102Words(t *testing.T) {
	t.Parallel()
	for s, want := range map[string]string{"": "[]", " ": "[]", "a": `["a"]`, "  a  b ": `["a" "b"]`, "a\tb c\n": `["a\tb" "c\n"]`, "x0 -> {": `["x0" "->" "{"]`} {
		is(t, fmt.Sprintf("Words %q", s), fmt.Sprintf("%q", blread.Words(s)), want)
	}
	for s, want := range map[string]string{
		"int": "{{false } 0} [] true", "int own S": "{{false } 0} [own S] true", "own S": "{{true S} 1} [] true", "mut S x": "{{true S} 2} [x] true", "share own int": "{{true own} 3} [int] true",
		"": "{{false } 0} [] false", "own": "{{false } 0} [] false", "own int": "{{false } 0} [] false", "plain S": "{{false } 0} [] false", "S own": "{{false } 0} [] false", "own 7": "{{false } 0} [] false", "Own S": "{{false } 0} [] false",
		"own S,": "{{false } 0} [] false", "var int": "{{false } 0} [] false",
	} {
		v, rest, is1 := blread.Variable(strings.Fields(s))
		is(t, "Variable "+s, fmt.Sprint(v, rest, is1), want)
	}
	words := []string{"int", "a"}
	_, rest, _ := blread.Variable(words)
	rest[0] = "b"
	is(t, "the words behind are new", words[1], "a")
	for s, want := range map[string]string{
		"x0": "0 true", "x7": "7 true", "x10": "10 true", "x100000": "100000 true", "x100001": "0 false", "x00": "0 false", "x01": "0 false", "x": "0 false", "": "0 false", "0": "0 false", "X0": "0 false",
		"x-1": "0 false", "x+1": "0 false", "x1 ": "0 false", " x1": "0 false", "xx1": "0 false", "x1a": "0 false", "x99999999999999999999999": "0 false", "x1_0": "0 false", "x٣": "0 false",
	} {
		n, is1 := blread.Index(s)
		is(t, "Index "+s, fmt.Sprint(n, is1), want)
	}
}

func TestP2103Again(t *testing.T) {
	t.Parallel()
	odd := 0
	for seed, m := range someModules(500) {
		r := dice(uint64(seed))
		m = formedChance(r, m)
		if r.IntN(2) == 0 {
			m.Funcs[0].Ins[0].N = pick(r, []int64{math.MinInt64, math.MaxInt64, -1})
		}
		text := bl.Text(m)
		got, f := blread.Read(text)
		is(t, "fault", f, api.OK)
		want := bare(m)
		for k := range want.Structs {
			want.Structs[k].At = api.Pos{}
			for n := range want.Structs[k].Fields {
				want.Structs[k].Fields[n].At = api.Pos{}
			}
		}
		equal(t, "Read of Text", got, want)
		is(t, "Text again", bl.Text(got), text)
		for range 10 {
			i := r.IntN(len(text))
			k := min(len(text), i+r.IntN(3))
			s := text[:i] + pick(r, []string{"", " ", "\n", "0", "x", "own", "int", "}", "S", "mut "}) + text[k:]
			got, f := blread.Read(s)
			switch {
			case f == api.OK:
				is(t, "what is read has that text", bl.Text(got), s)
			default:
				odd++
				is(t, "fault", f, api.Odd)
				equal(t, "nothing", got, api.Module{})
			}
		}
	}
	must(t, "some were odd", odd > 1000)
}
