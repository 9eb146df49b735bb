package checks

import (
	"bytes"
	"fmt"
	"math"
	"strings"
	"testing"

	"usufruct/api"
	"usufruct/lower"
	"usufruct/mcrun"
	"usufruct/show"
)

// outcome: in one line.
func outcome(o api.Outcome) string {
	return fmt.Sprintf("%d %d %q %d %d", o.Kind, o.Code, o.Out, o.Steps, o.Left)
}

func TestP701Steps(t *testing.T) {
	t.Parallel()
	m := lowered("int main() { put(65); return 7; }")
	x, f := mcrun.New(m, nil, nil)
	is(t, "New", f, api.OK)
	var got []string
	got = append(got, outcome(x.Outcome()))
	for x.Step() {
		got = append(got, outcome(x.Outcome()))
	}
	is(t, "the example", strings.Join(got, " | "), `4 0 "" 0 0 | 4 0 "" 1 0 | 4 0 "A" 2 0 | 4 0 "A" 3 0 | 1 7 "A" 4 0`)
	must(t, "no step behind the end", !x.Step() && !x.Step())
	is(t, "the outcome stays", outcome(x.Outcome()), `1 7 "A" 4 0`)
	o := x.Outcome()
	o.Out[0] = 'x'
	is(t, "what was handed out is new", outcome(x.Outcome()), `1 7 "A" 4 0`)
	x, f = mcrun.New(api.Module{}, nil, nil)
	is(t, "what is not right", f, api.NoMain)
	must(t, "no machine", x == nil)
	must(t, "nil does nothing", !x.Step())
	equal(t, "nil has no outcome", x.Outcome(), api.Outcome{})
}

func TestP701Ops(t *testing.T) {
	t.Parallel()
	const head = "struct S { int v; S * n; }; int id(int a) { return a; } S * same(S * s) { return s; } int down(int n) { if (n == 0) { return 0; } return 1 + down(n - 1); } "
	for _, c := range []struct{ body, in, want string }{
		{"return 7;", "", `1 7 "" 2 0`},
		{"int a = 5; int b = a; return a - b;", "", `1 0 "" 4 0`},
		{"put(get()); put(get()); put(get()); return get();", "hi", "1 -1 \"hi\\xff\" 8 0"},
		{"put(256 + 66); put(-1); put(-190); return 0;", "", "1 0 \"B\\xffB\" 14 0"},
		{"S * s = new S; return s->v;", "", `1 0 "" 3 1`},
		{"S * s = new S; s->v = 5; S * r = s; r->v = r->v + 1; return s->v;", "", `1 6 "" 10 1`},
		{"S * s = new S; return s->n == null;", "", `1 1 "" 4 1`},
		{"S * s = new S; s->n = s; return s->n->n->n == null;", "", `1 0 "" 7 1`},
		{"S * s = new S; free(s); return 3;", "", `1 3 "" 4 0`},
		{"S * s = new S; free(s); return s == null;", "", `1 0 "" 4 0`},
		{"S * s = new S; free(s); return s != null;", "", `1 1 "" 4 0`},
		{"S * s = null; free(s); return s != null;", "", `1 0 "" 4 0`},
		{"S * s = null; put(65); return s->v;", "", `2 0 "A" 4 0`},
		{"S * s = null; s->v = 1; return 0;", "", `2 0 "" 3 0`},
		{"S * s = null; s->n = null; return 0;", "", `2 0 "" 3 0`},
		{"S * s = null; s = s->n; return 0;", "", `2 0 "" 2 0`},
		{"S * s = new S; free(s); return s->v;", "", `2 0 "" 3 0`},
		{"S * s = new S; free(s); s = s->n; return 0;", "", `2 0 "" 3 0`},
		{"S * s = new S; free(s); s->v = 1; return 0;", "", `2 0 "" 4 0`},
		{"S * s = new S; free(s); s->n = s; return 0;", "", `2 0 "" 3 0`},
		{"S * s = new S; S * r = s; free(s); free(r); return 0;", "", `2 0 "" 4 0`},
		{"S * s = new S; s->n = new S; free(s); return 0;", "", `1 0 "" 6 1`},
		{"return 1 / 0;", "", `2 0 "" 3 0`},
		{"put(66); return 1 % 0;", "", `2 0 "B" 5 0`},
		{"return -7 / 2;", "", `1 -3 "" 6 0`},
		{"return -7 % 2;", "", `1 -1 "" 6 0`},
		{"return 7 / -2;", "", `1 -3 "" 6 0`},
		{"return 7 % -2;", "", `1 1 "" 6 0`},
		{"return 2147483647 + 1;", "", `1 -2147483648 "" 4 0`},
		{"return (-2147483647 - 1) / -1;", "", `1 -2147483648 "" 10 0`},
		{"return 65536 * 65536 + 65537 * 65537;", "", `1 131073 "" 8 0`},
		{"return !0 + !7 * 5;", "", `1 1 "" 10 0`},
		{"if (2) { return 1; } return 0;", "", `1 1 "" 4 0`},
		{"if (0) { return 1; } return 4;", "", `1 4 "" 4 0`},
		{"if (-1) { put(65); } else { put(66); } return 4;", "", `1 4 "A" 9 0`},
		{"if (0) { put(65); } else { put(66); } return 4;", "", `1 4 "B" 6 0`},
		{"int i = 3; while (i) { put(64 + i); i = i - 1; } return i;", "", `1 0 "CBA" 24 0`},
		{"return id(5) - id(3);", "", `1 2 "" 8 0`},
		{"S * s = new S; S * r = same(s); r->v = 9; return s->v;", "", `1 9 "" 7 1`},
		{"return down(3);", "", `1 3 "" 35 0`},
	} {
		m := lowered(head + "int main() { " + c.body + " }")
		is(t, c.body, outcome(mcrun.Run(m, []byte(c.in), nil, 1000)), c.want)
	}
}

func TestP701Fails(t *testing.T) {
	t.Parallel()
	m := lowered("struct S { int v; }; int main() { S * a = new S; S * b = new S; S * c = new S; put(65 + (a == null)); put(65 + (b == null)); put(65 + (c == null)); return 0; }")
	for _, c := range []struct {
		fails []bool
		want  string
	}{
		{nil, `1 0 "AAA" 17 3`}, {[]bool{true}, `1 0 "BAA" 17 2`}, {[]bool{false, true}, `1 0 "ABA" 17 2`},
		{[]bool{true, false, true, true}, `1 0 "BAB" 17 1`}, {[]bool{true, true, true}, `1 0 "BBB" 17 0`},
	} {
		is(t, fmt.Sprint(c.fails), outcome(mcrun.Run(m, nil, c.fails, 1000)), c.want)
	}
}

func TestP701Odd(t *testing.T) {
	t.Parallel()
	// What no lowering makes: numbers beyond 32 bits, variables that were never written.
	one := func(l ...api.Instr) api.Module {
		return api.Module{
			Structs: []api.Struct{{Name: "S", Fields: []api.Field{{Name: "v"}}}},
			Funcs:   []api.Code{{Name: "main", Vars: []api.Var{{}, {}, cell("S")}, Ins: append(l, api.Instr{Op: api.Ret})}},
		}
	}
	for _, c := range []struct {
		n, want int64
	}{{1 << 31, -1 << 31}, {1<<32 + 5, 5}, {-1<<31 - 1, 1<<31 - 1}, {math.MaxInt64, -1}, {math.MinInt64, 0}} {
		is(t, "a number wrapped", mcrun.Run(one(api.Instr{Op: api.Num, N: c.n}), nil, nil, 9).Code, c.want)
	}
	is(t, "a number at first", outcome(mcrun.Run(one(), nil, nil, 9)), `1 0 "" 1 0`)
	is(t, "a pointer at first", outcome(mcrun.Run(one(api.Instr{Op: api.IsNull, A: 2, Sign: "=="}), nil, nil, 9)), `1 1 "" 2 0`)
	is(t, "load of a pointer at first", outcome(mcrun.Run(one(api.Instr{Op: api.Load, A: 2}), nil, nil, 9)), `2 0 "" 1 0`)
	var m api.Module
	m.Funcs = []api.Code{
		{Name: "f", Params: 1, Vars: []api.Var{{}, {}}, Ins: []api.Instr{{Op: api.Bin, D: 1, A: 1, B: 0, Sign: "+"}, {Op: api.Ret, A: 1}}},
		{Name: "main", Vars: []api.Var{{}, {}}, Ins: []api.Instr{{Op: api.Num, D: 0, N: 3}, {Op: api.Call, D: 1, F: 0, Args: []int{0}}, {Op: api.Call, D: 1, F: 0, Args: []int{0}}, {Op: api.Ret, A: 1}}},
	}
	is(t, "each frame begins with zeros", mcrun.Run(m, nil, nil, 99).Code, 3)
}

func TestP702Run(t *testing.T) {
	t.Parallel()
	m := lowered("int main() { put(65); put(66); while (1) { put(67); } return 7; }")
	for fuel, want := range map[int]string{
		math.MinInt: `4 0 "" 0 0`, -1: `4 0 "" 0 0`, 0: `4 0 "" 0 0`, 1: `4 0 "" 1 0`, 2: `4 0 "A" 2 0`, 4: `4 0 "AB" 4 0`, 14: `4 0 "ABCC" 14 0`,
	} {
		is(t, fmt.Sprint("fuel ", fuel), outcome(mcrun.Run(m, nil, nil, fuel)), want)
	}
	m = lowered("int main() { return 7; }")
	is(t, "fuel for all", outcome(mcrun.Run(m, nil, nil, 2)), `1 7 "" 2 0`)
	is(t, "fuel ahead of all", outcome(mcrun.Run(m, nil, nil, 1)), `4 0 "" 1 0`)
	is(t, "much fuel", outcome(mcrun.Run(m, nil, nil, math.MaxInt)), `1 7 "" 2 0`)
	equal(t, "what is not right", mcrun.Run(api.Module{}, nil, nil, 5), api.Outcome{})
	deep := lowered("int f(int n) { return f(n + 1); } int main() { return f(0); }")
	is(t, "a call without end", outcome(mcrun.Run(deep, nil, nil, 300000)), `4 0 "" 300000 0`)
}

func TestP702Sign(t *testing.T) {
	t.Parallel()
	edges := []int64{0, 1, -1, 2, -2, 3, 7, -7, 255, 65536, 1<<31 - 1, -1 << 31, 1<<31 - 2, -1<<31 + 1, 46341}
	for _, op := range strings.Fields("+ - * / % < <= > >= == !=") {
		for _, a := range edges {
			for _, b := range edges {
				got, is1 := mcrun.Sign(op, a, b)
				var want int64
				can := !panics(func() { want = signAgain(op, a, b) })
				is(t, fmt.Sprint(a, op, b), fmt.Sprint(got, is1), fmt.Sprint(want, can))
			}
		}
	}
	for _, op := range []string{"", "=", "&", "++", "->", "!", " +"} {
		got, is1 := mcrun.Sign(op, 1, 1)
		is(t, "no sign "+op, fmt.Sprint(got, is1), "0 false")
	}
	for _, n := range append(edges, math.MaxInt64, math.MinInt64, 1<<32, 1<<31, -1<<31-1, 1<<32+1<<31, -1<<40, 1<<63-1<<31) {
		is(t, fmt.Sprint("Wrap ", n), mcrun.Wrap(n), wrapAgain(n))
	}
	for _, a := range []int64{math.MinInt64, math.MaxInt64} {
		for _, op := range strings.Fields("+ - * / % <") {
			must(t, "no panic", !panics(func() { mcrun.Sign(op, a, -1); mcrun.Sign(op, -1, a) }))
		}
	}
}

// tries: what comes in, and what fails, for a seed.
func tries(seed uint64) ([]byte, []bool) {
	r := dice(seed + 77)
	in := make([]byte, r.IntN(6))
	for i := range in {
		in[i] = byte(r.IntN(256))
	}
	fails := make([]bool, r.IntN(8))
	for i := range fails {
		fails[i] = r.IntN(6) == 0
	}
	return in, fails
}

func TestP703Chance(t *testing.T) {
	t.Parallel()
	found := map[int]int{}
	for seed := range uint64(1500) {
		p := sanely(seed)
		m, d := lower.Lower(p)
		if d != (api.Diag{}) {
			continue
		}
		in, fails := tries(seed)
		got := mcrun.Run(m, in, fails, 3000)
		found[got.Kind]++
		equal(t, show.Prog(p), got, machineAgain(m, in, fails, 3000))
		o, ends := treeRun(p, in, fails, 20000)
		if got.Kind != 4 && ends {
			is(t, show.Prog(p), fmt.Sprint(got.Kind, got.Code, got.Out, got.Left), fmt.Sprint(o.Kind, o.Code, o.Out, o.Left))
		}
		for _, fuel := range []int{1, 10, 100} {
			must(t, "with more fuel all is put out first", bytes.HasPrefix(got.Out, mcrun.Run(m, in, fails, fuel).Out))
		}
	}
	must(t, fmt.Sprint("all kinds ", found), found[1] > 100 && found[2] > 100 && found[4] > 20)
}
