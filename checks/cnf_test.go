package checks

import (
	"fmt"
	"math"
	"math/rand/v2"
	"slices"
	"strings"
	"testing"

	"usufruct/api"
	"usufruct/cnf"
)

// anyFormula: some right formula of at most n variables; a clause may have a literal twice, or its negation too, where that is asked.
func anyFormula(r *rand.Rand, n, most int, odd bool) cnf.Formula {
	f := cnf.Formula{N: r.IntN(n + 1)}
	if f.N == 0 {
		if r.IntN(3) == 0 {
			f.L = append(f.L, []int{})
		}
		return f
	}
	for range r.IntN(most + 1) {
		var c []int
		for range 1 + r.IntN(3) {
			l := 1 + r.IntN(f.N)
			if r.IntN(2) == 0 {
				l = -l
			}
			if odd || !slices.Contains(c, l) && !slices.Contains(c, -l) {
				c = append(c, l)
			}
		}
		if r.IntN(40) == 0 {
			c = nil
		}
		f.L = append(f.L, c)
	}
	return f
}

// everyModel: all models of n variables, those first that are false at the first place.
func everyModel(n int) [][]bool {
	l := [][]bool{{}}
	for range n {
		var longer [][]bool
		for _, m := range l {
			longer = append(longer, append(slices.Clone(m), false), append(slices.Clone(m), true))
		}
		l = longer
	}
	return l
}

func evalAgain(f cnf.Formula, model []bool) bool {
	for _, c := range f.L {
		some := false
		for _, l := range c {
			some = some || model[max(l, -l)-1] == (l > 0)
		}
		if !some {
			return false
		}
	}
	return true
}

// modelsAgain: all models of a formula.
func modelsAgain(f cnf.Formula) [][]bool {
	l := [][]bool{}
	for _, m := range everyModel(f.N) {
		if evalAgain(f, m) {
			l = append(l, m)
		}
	}
	return l
}

func TestP1401Right(t *testing.T) {
	t.Parallel()
	for _, c := range []struct {
		f    cnf.Formula
		want bool
	}{
		{cnf.Formula{}, true}, {cnf.Formula{N: 2, L: [][]int{{1, -2}, {}, {2, 2, -2}}}, true}, {cnf.Formula{N: 2, L: [][]int{{1}, {0}}}, false},
		{cnf.Formula{N: 2, L: [][]int{{3}}}, false}, {cnf.Formula{N: 2, L: [][]int{{-3}}}, false}, {cnf.Formula{N: -1}, false}, {cnf.Formula{L: [][]int{{1}}}, false},
		{cnf.Formula{N: 100000, L: [][]int{{100000}, {-100000}}}, true}, {cnf.Formula{N: 100001}, false}, {cnf.Formula{N: 1, L: make([][]int, 200000)}, true},
		{cnf.Formula{N: 1, L: make([][]int, 200001)}, false}, {cnf.Formula{N: 2, L: [][]int{{math.MinInt}}}, false}, {cnf.Formula{N: 2, L: [][]int{{math.MaxInt}}}, false},
		{cnf.Formula{N: math.MinInt, L: [][]int{{1}}}, false}, {cnf.Formula{N: math.MaxInt, L: [][]int{{1}}}, false},
	} {
		is(t, fmt.Sprint("Right ", c.f.N, len(c.f.L)), cnf.Right(c.f), c.want)
	}
}

func TestP1401Eval(t *testing.T) {
	t.Parallel()
	f := cnf.Formula{N: 2, L: [][]int{{1, 2}, {-1}}}
	is(t, "Eval", fmt.Sprint(cnf.Eval(f, []bool{false, true}), cnf.Eval(f, []bool{true, true}), cnf.Eval(f, []bool{false, false})), "true false false")
	is(t, "another length", fmt.Sprint(cnf.Eval(f, []bool{false}), cnf.Eval(f, []bool{false, true, true}), cnf.Eval(f, nil)), "false false false")
	is(t, "what is not right", cnf.Eval(cnf.Formula{N: 1, L: [][]int{{1, 2}}}, []bool{true}), false)
	is(t, "nothing", fmt.Sprint(cnf.Eval(cnf.Formula{}, nil), cnf.Eval(cnf.Formula{L: [][]int{{}}}, nil)), "true false")
	is(t, "too many", cnf.Eval(cnf.Formula{N: 100001}, make([]bool, 100001)), false)
	for seed := range uint64(500) {
		f := anyFormula(dice(seed), 5, 6, true)
		for _, m := range everyModel(f.N) {
			is(t, fmt.Sprint("Eval ", f, m), cnf.Eval(f, m), evalAgain(f, m))
		}
	}
}

func TestP1401Given(t *testing.T) {
	t.Parallel()
	f := cnf.Formula{N: 3, L: [][]int{{1, 2}, {-1, 3, -1}, {2, -3}, {-1}, {1, -1}, {}}}
	equal(t, "given 1", cnf.Given(f, 1), cnf.Formula{N: 3, L: [][]int{{3}, {2, -3}, {}, {}}})
	equal(t, "given -1", cnf.Given(f, -1), cnf.Formula{N: 3, L: [][]int{{2}, {2, -3}, {}}})
	for _, lit := range []int{0, 4, -4, math.MinInt, math.MaxInt} {
		g := cnf.Given(f, lit)
		equal(t, "no literal of it", g, f)
		g.L[0][0] = 9
		is(t, "what is handed out is new", f.L[0][0], 1)
	}
	for _, odd := range []cnf.Formula{{N: 1, L: [][]int{{1, 2}, {1}}}, {N: -1, L: [][]int{{1}}}, {N: 100001, L: [][]int{{1}}}} {
		equal(t, "what is not right", cnf.Given(odd, 1), odd)
	}
	g := cnf.Given(f, 1)
	g.L[0][0], g.L[1][0] = 9, 9
	is(t, "what was handed in stays", fmt.Sprint(f.L), "[[1 2] [-1 3 -1] [2 -3] [-1] [1 -1] []]")
}

// bySize: as the chapter orders literals.
func bySize(c []int) []int {
	var l []int
	for _, x := range c {
		if x == 0 && !slices.Contains(l, 0) {
			l = append(l, 0)
		}
	}
	for v := 1; v <= 9; v++ {
		for _, x := range []int{v, -v} {
			if slices.Contains(c, x) {
				l = append(l, x)
			}
		}
	}
	return l
}

func TestP1402Norm(t *testing.T) {
	t.Parallel()
	for _, c := range []struct {
		in   []int
		want string
	}{
		{nil, "[] true"}, {[]int{3, 1, -2, 1}, "[1 -2 3] true"}, {[]int{-1, 2, 1}, "[1 -1 2] false"}, {[]int{0, 5, 0}, "[0 5] true"}, {[]int{-3, 3, -3, 3}, "[3 -3] false"},
		{[]int{-4, 0}, "[0 -4] true"}, {[]int{0}, "[0] true"}, {[]int{math.MinInt, math.MaxInt, 1, math.MinInt}, fmt.Sprint([]int{1, math.MaxInt, math.MinInt}, " true")},
		{[]int{math.MaxInt, -math.MaxInt}, fmt.Sprint([]int{math.MaxInt, -math.MaxInt}, " false")},
	} {
		in := slices.Clone(c.in)
		got, is1 := cnf.Norm(c.in)
		is(t, fmt.Sprint("Norm ", c.in), fmt.Sprint(got, is1), c.want)
		equal(t, "what was handed in stays", c.in, in)
	}
	for seed := range uint64(2000) {
		r := dice(seed)
		var c []int
		for range r.IntN(6) {
			c = append(c, r.IntN(9)-4)
		}
		want := bySize(c)
		ok := !slices.ContainsFunc(c, func(l int) bool { return l != 0 && slices.Contains(c, -l) })
		got, is1 := cnf.Norm(c)
		equal(t, "Norm", got, want)
		is(t, "Norm", is1, ok)
	}
}

func TestP1402Resolve(t *testing.T) {
	t.Parallel()
	for _, c := range []struct {
		a, b []int
		v    int
		want string
	}{
		{[]int{1, 2}, []int{-1, 3}, 1, "[2 3] true"}, {[]int{1}, []int{-1}, 1, "[] true"}, {[]int{-1}, []int{1}, 1, "[] false"}, {[]int{-1}, []int{1}, -1, "[] false"},
		{[]int{1, 2}, []int{-1, -2}, 1, "[] false"}, {[]int{2, 1}, []int{-1, 2, 1}, 1, "[1 2] true"}, {[]int{1, -1}, []int{-1}, 1, "[-1] true"}, {[]int{1, 1, 3, 2}, []int{2, -1, -1}, 1, "[2 3] true"},
		{[]int{2}, []int{-1}, 1, "[] false"}, {[]int{1}, []int{2}, 1, "[] false"}, {[]int{0, 1}, []int{-1, 0}, 1, "[0] true"}, {[]int{0}, []int{0}, 0, "[] false"}, {nil, nil, 1, "[] false"},
		{[]int{math.MaxInt}, []int{-math.MaxInt}, math.MaxInt, "[] true"}, {[]int{math.MinInt}, []int{math.MinInt}, math.MinInt, "[] false"}, {[]int{1, -1}, []int{1, -1}, 1, "[] false"},
	} {
		a, b := slices.Clone(c.a), slices.Clone(c.b)
		got, is1 := cnf.Resolve(c.a, c.b, c.v)
		is(t, fmt.Sprint("Resolve ", c.a, c.b, c.v), fmt.Sprint(got, is1), c.want)
		equal(t, "what was handed in stays", [][]int{c.a, c.b}, [][]int{a, b})
	}
	for seed := range uint64(3000) {
		r := dice(seed)
		clause := func() (c []int) {
			for range r.IntN(4) {
				c = append(c, r.IntN(7)-3)
			}
			return c
		}
		a, b, v := clause(), clause(), r.IntN(5)-1
		var all []int
		for _, l := range a {
			if l != v {
				all = append(all, l)
			}
		}
		for _, l := range b {
			if l != -v {
				all = append(all, l)
			}
		}
		want := bySize(all)
		can := v >= 1 && slices.Contains(a, v) && slices.Contains(b, -v) && !slices.ContainsFunc(all, func(l int) bool { return l != 0 && slices.Contains(all, -l) })
		if !can {
			want = nil
		}
		got, is1 := cnf.Resolve(a, b, v)
		equal(t, fmt.Sprint("Resolve ", a, b, v), got, want)
		is(t, "Resolve", is1, can)
	}
}

func TestP1403Text(t *testing.T) {
	t.Parallel()
	f := cnf.Formula{N: 3, L: [][]int{{1, -2}, {}, {3, 3}}}
	const text = "p cnf 3 3\n1 -2 0\n0\n3 3 0\n"
	is(t, "Text", cnf.Text(f), text)
	is(t, "Text of nothing", cnf.Text(cnf.Formula{}), "p cnf 0 0\n")
	is(t, "Text of what is not right", cnf.Text(cnf.Formula{N: 1, L: [][]int{{2}}})+cnf.Text(cnf.Formula{N: -1}), "")
	for _, s := range []string{
		"", "\n", "p cnf 0 0", "p cnf 0 0\n\n", " p cnf 0 0\n", "p cnf 0 0 \n", "p  cnf 0 0\n", "p cnf 0 1\n", "p cnf 1 0\n0\n", "p cnf 1 1\n1 0", "p cnf 1 1\n1\n", "p cnf 1 1\n1  0\n",
		"p cnf 1 1\n2 0\n", "p cnf 1 1\n0 0\n", "p cnf 1 1\n+1 0\n", "p cnf 1 1\n01 0\n", "p cnf 1 1\n1 0\r\n", "p cnf 01 1\n1 0\n", "p cnf -1 0\n", "p cnf 100001 0\n", "p cnf 1 1\n1 0 \n", "p cnf 1 1\n 1 0\n",
		"p cnf 1 1\nx 0\n", "p cnf 1 1\n1 -0\n", "q cnf 1 1\n1 0\n", "p dnf 1 1\n1 0\n", "p cnf 99999999999999999999 0\n", "p cnf 1 1\n99999999999999999999 0\n", "c a\np cnf 0 0\n", "p cnf 1 2\n1 0\n", "p cnf 1 1\n1 0\n1 0\n", "p cnf 1 1\n1 1\n",
	} {
		g, e := cnf.Parse(s)
		is(t, fmt.Sprintf("Parse %q", s), e, api.Odd)
		equal(t, "no formula", g, cnf.Formula{})
	}
	g, e := cnf.Parse(text)
	is(t, "Parse", e, api.OK)
	equal(t, "Parse", g, f)
	for seed := range uint64(500) {
		f := anyFormula(dice(seed), 6, 8, true)
		s := cnf.Text(f)
		want := fmt.Sprintf("p cnf %d %d\n", f.N, len(f.L))
		for _, c := range f.L {
			want += strings.TrimLeft(strings.Trim(fmt.Sprint(c), "[]")+" 0\n", " ")
		}
		is(t, "Text", s, want)
		g, e := cnf.Parse(s)
		is(t, "Parse", e, api.OK)
		equal(t, "Parse of Text", g, f)
		i := dice(seed + 1).IntN(len(s))
		for _, b := range []byte(" 0-1\n") {
			other := s[:i] + string([]byte{b}) + s[i+1:]
			h, e := cnf.Parse(other)
			is(t, fmt.Sprintf("Parse of another text %q", other), e == api.OK && cnf.Text(h) == other || e == api.Odd && len(h.L) == 0, true)
		}
	}
}

func TestP1404Builder(t *testing.T) {
	t.Parallel()
	b := cnf.New()
	equal(t, "nothing yet", b.Formula(), cnf.Formula{})
	b.Clause(1)
	is(t, "variables", fmt.Sprint(b.Var(), b.Var(), b.Var()), "1 2 3")
	b.Clause(1, -2)
	b.Clause()
	b.Clause(1, 4)
	b.Clause(-4)
	b.Clause(0)
	b.Clause(math.MinInt)
	b.Imply([]int{1, -2}, 3, -3)
	b.Imply(nil, 2)
	b.Imply([]int{3})
	b.Imply([]int{4}, 1)
	b.Imply([]int{1}, 4)
	b.Imply([]int{math.MinInt}, 1)
	b.Imply([]int{0}, 1)
	b.Same(1, -3)
	b.Same(1, 4)
	b.Same(4, 1)
	b.Same(math.MinInt, 1)
	b.Same(1, math.MinInt)
	want := cnf.Formula{N: 3, L: [][]int{{1, -2}, {}, {-1, 2, 3, -3}, {2}, {-3}, {-1, -3}, {1, 3}}}
	equal(t, "so far", b.Formula(), want)
	is(t, "one more", b.Var(), 4)
	lits := []int{1, 4}
	b.Clause(lits...)
	lits[0] = 9
	f := b.Formula()
	f.L[0][0] = 7
	want.N, want.L = 4, append(want.L, []int{1, 4})
	equal(t, "what is handed in and out is not kept", b.Formula(), want)
	when := []int{1, 2}
	b.Imply(when, 3)
	is(t, "what was handed in stays", when, "[1 2]")
	var none *cnf.Builder
	is(t, "of nil", none.Var(), 0)
	none.Clause(1)
	none.Clause()
	none.Imply(nil)
	none.Same(1, 1)
	equal(t, "of nil", none.Formula(), cnf.Formula{})
}

func TestP1405Laws(t *testing.T) {
	t.Parallel()
	for seed := range uint64(1000) {
		f := anyFormula(dice(seed), 4, 5, true)
		for _, m := range everyModel(f.N) {
			for i := range f.L {
				for k := range f.L {
					for v := 1; v <= f.N; v++ {
						if c, is1 := cnf.Resolve(f.L[i], f.L[k], v); is1 {
							two := cnf.Formula{N: f.N, L: [][]int{f.L[i], f.L[k]}}
							one := cnf.Formula{N: f.N, L: [][]int{c}}
							must(t, "a model of two clauses is one of what they resolve to", !cnf.Eval(two, m) || cnf.Eval(one, m))
						}
					}
				}
			}
			for v, is1 := range m {
				lit := v + 1
				if !is1 {
					lit = -lit
				}
				is(t, "true, just if it is so given a literal that is true", cnf.Eval(cnf.Given(f, lit), m), cnf.Eval(f, m))
			}
		}
	}
}
