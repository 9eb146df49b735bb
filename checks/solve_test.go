package checks

import (
	"fmt"
	"math"
	"slices"
	"testing"

	"usufruct/cnf"
	"usufruct/solve"
)

// oddFormulas: such as are not right.
func oddFormulas() []cnf.Formula {
	return []cnf.Formula{{N: -1}, {N: 1, L: [][]int{{2}}}, {N: 1, L: [][]int{{0}}}, {N: 100001}, {N: 1, L: [][]int{{math.MinInt}}}, {N: math.MinInt}}
}

// pigeons: more pigeons than holes, each in one of them, no two in one.
func pigeons(birds, holes int) cnf.Formula {
	f := cnf.Formula{N: birds * holes}
	in := func(b, h int) int { return b*holes + h + 1 }
	for b := range birds {
		var c []int
		for h := range holes {
			c = append(c, in(b, h))
			for o := range b {
				f.L = append(f.L, []int{-in(b, h), -in(o, h)})
			}
		}
		f.L = append(f.L, c)
	}
	return f
}

// threes: clauses of three literals each.
func threes(seed uint64, n, count int) cnf.Formula {
	r := dice(seed)
	f := cnf.Formula{N: n}
	for range count {
		var c []int
		for range 3 {
			c = append(c, (1+r.IntN(n))*(1-2*r.IntN(2)))
		}
		f.L = append(f.L, c)
	}
	return f
}

func TestP1501Models(t *testing.T) {
	t.Parallel()
	m, is1 := solve.Solve(cnf.Formula{N: 2, L: [][]int{{1, 2}, {-1}}})
	is(t, "the example", fmt.Sprint(m, is1), "[false true] true")
	m, is1 = solve.Solve(cnf.Formula{})
	is(t, "nothing", fmt.Sprint(len(m), is1), "0 true")
	m, is1 = solve.Solve(cnf.Formula{N: 3})
	is(t, "no clause", fmt.Sprint(m, is1), "[false false false] true")
	for _, f := range []cnf.Formula{{L: [][]int{{}}}, {N: 1, L: [][]int{{1}, {-1}}}, {N: 2, L: [][]int{{1, 2}, {-1, 2}, {1, -2}, {-1, -2}}}, pigeons(5, 4)} {
		m, is1 = solve.Solve(f)
		is(t, "no model", fmt.Sprint(len(m), is1, solve.Count(f, 5), len(slices.Collect(solve.Models(f)))), "0 false 0 0")
	}
	for _, f := range oddFormulas() {
		m, is1 = solve.Solve(f)
		is(t, "what is not right", fmt.Sprint(len(m), is1, solve.Count(f, 5), len(slices.Collect(solve.Models(f)))), "0 false 0 0")
	}
	for seed := range uint64(3000) {
		f := anyFormula(dice(seed), 7, 12, true)
		want := modelsAgain(f)
		equal(t, fmt.Sprint("Models ", f), slices.Collect(solve.Models(f)), want)
		m, is1 := solve.Solve(f)
		is(t, "Solve", is1, len(want) > 0)
		if len(want) > 0 {
			equal(t, "Solve", m, want[0])
		} else {
			is(t, "Solve", len(m), 0)
		}
		for _, most := range []int{math.MinInt, -1, 0, 1, 2, 10, math.MaxInt} {
			is(t, "Count", solve.Count(f, most), max(0, min(most, len(want))))
		}
		n := 0
		for range solve.Models(f) {
			if n++; n == 3 {
				break
			}
		}
		is(t, "Models, as far as they are asked", n, min(3, len(want)))
	}
	all := solve.Models(cnf.Formula{N: 2})
	for range 2 {
		var got [][]bool
		for m := range all {
			got = append(got, m)
		}
		is(t, "each time from the begin, each model new", got, "[[false false] [false true] [true false] [true true]]")
	}
}

// fixedAgain: by what is left of the formula, given each literal.
func fixedAgain(f cnf.Formula, lits []int) ([]int, bool) {
	known := slices.Clone(lits)
	for {
		for _, l := range known {
			if slices.Contains(known, -l) {
				return nil, false
			}
		}
		left := f
		for _, l := range known {
			left = cnf.Given(left, l)
		}
		grown := false
		for _, c := range left.L {
			if len(c) == 0 {
				return nil, false
			}
			others := func(l int) bool { return l != c[0] }
			if !slices.ContainsFunc(c, others) && !slices.Contains(known, c[0]) {
				known = append(known, c[0])
				grown = true
			}
		}
		if !grown {
			return bySize(known), true
		}
	}
}

func TestP1502Fixed(t *testing.T) {
	t.Parallel()
	f := cnf.Formula{N: 5, L: [][]int{{-1, 2}, {-2, -3, 4}, {3, 5}, {-5, -4}}}
	for _, c := range []struct {
		lits []int
		want string
	}{
		{nil, "[] true"}, {[]int{1}, "[1 2] true"}, {[]int{1, 1}, "[1 2] true"}, {[]int{3, 1}, "[1 2 3 4 -5] true"}, {[]int{-3}, "[-3 -4 5] true"}, {[]int{1, -1}, "[] false"},
		{[]int{5, 4}, "[] false"}, {[]int{-3, 4}, "[] false"}, {[]int{0}, "[] false"}, {[]int{6}, "[] false"}, {[]int{-6}, "[] false"}, {[]int{math.MinInt}, "[] false"}, {[]int{math.MaxInt}, "[] false"},
	} {
		got, is1 := solve.Fixed(f, c.lits)
		is(t, fmt.Sprint("Fixed ", c.lits), fmt.Sprint(got, is1), c.want)
	}
	for _, f := range append(oddFormulas(), cnf.Formula{N: 1, L: [][]int{{}}}, cnf.Formula{N: 1, L: [][]int{{1}, {-1}}}) {
		got, is1 := solve.Fixed(f, nil)
		is(t, "Fixed", fmt.Sprint(got, is1), "[] false")
	}
	for seed := range uint64(3000) {
		r := dice(seed)
		f := anyFormula(r, 7, 9, seed%2 == 0)
		var lits []int
		for range r.IntN(3) {
			if f.N > 0 {
				lits = append(lits, (1+r.IntN(f.N))*(1-2*r.IntN(2)))
			}
		}
		want, ok := fixedAgain(f, lits)
		got, is1 := solve.Fixed(f, lits)
		equal(t, fmt.Sprint("Fixed ", f, lits), got, want)
		is(t, "Fixed", is1, ok)
	}
	long := cnf.Formula{N: 100000}
	for v := 1; v < long.N; v++ {
		long.L = append(long.L, []int{-v, v + 1})
	}
	got, is1 := solve.Fixed(long, []int{1})
	is(t, "a long chain", fmt.Sprint(len(got), is1), "100000 true")
	m, is1 := solve.Solve(cnf.Formula{N: long.N, L: append(long.L, []int{1})})
	is(t, "a long chain", fmt.Sprint(len(m), is1, slices.Contains(m, false)), "100000 true false")
}

// A literal that stands in a clause more than once is alone in it, if no other one does.
func TestP1502FixedRepeated(t *testing.T) {
	t.Parallel()
	for _, c := range []struct {
		n    int
		l    [][]int
		lits []int
		want string
	}{
		{2, [][]int{{-2, -2}}, nil, "[-2] true"}, {1, [][]int{{1, 1, 1}}, nil, "[1] true"}, {1, [][]int{{1, 1}}, []int{1}, "[1] true"},
		{1, [][]int{{1, 1}}, []int{-1}, "[] false"}, {1, [][]int{{1, 1}, {-1, -1}}, nil, "[] false"}, {1, [][]int{{1, 1}, {-1}}, nil, "[] false"},
		{2, [][]int{{1, 2, 2}}, []int{-1}, "[-1 2] true"}, {2, [][]int{{2, 1, 2}}, []int{-1}, "[-1 2] true"}, {2, [][]int{{1, 1, 2}}, []int{-1}, "[-1 2] true"},
		{2, [][]int{{1, 2, 1, 2}}, []int{-1}, "[-1 2] true"}, {2, [][]int{{1, 1, 2, 2}}, nil, "[] true"}, {2, [][]int{{1, 1, 2, 2}}, []int{-1, -2}, "[] false"},
		{3, [][]int{{1, 1}, {-1, -1, 2, 2}, {-2, 3, -2, 3, -1}}, nil, "[1 2 3] true"}, {2, [][]int{{1, -1, 1}}, nil, "[] true"},
		{2, [][]int{{1, -1, -1}}, []int{1}, "[1] true"}, {2, [][]int{{1, -1, -1}}, []int{-1}, "[-1] true"}, {2, [][]int{{1, -1, 2, 2}}, []int{-1}, "[-1] true"},
	} {
		got, is1 := solve.Fixed(cnf.Formula{N: c.n, L: c.l}, c.lits)
		is(t, fmt.Sprint("Fixed ", c.l, c.lits), fmt.Sprint(got, is1), c.want)
	}
	long := cnf.Formula{N: 2, L: [][]int{slices.Repeat([]int{1, 2}, 500000)}}
	got, is1 := solve.Fixed(long, []int{-1, -1})
	is(t, "a long clause of two literals", fmt.Sprint(got, is1), "[-1 2] true")
}

func TestP1502Pure(t *testing.T) {
	t.Parallel()
	is(t, "Pure", solve.Pure(cnf.Formula{N: 5, L: [][]int{{1, -2}, {3, -3}, {-4, 4}, {-2}, {1, 1}}}), "[1 -2]")
	is(t, "nothing", solve.Pure(cnf.Formula{N: 3}), "[]")
	for _, f := range oddFormulas() {
		is(t, "what is not right", solve.Pure(f), "[]")
	}
	for seed := range uint64(500) {
		f := anyFormula(dice(seed), 7, 9, true)
		all := slices.Concat(f.L...)
		var want []int
		for _, l := range bySize(all) {
			if !slices.Contains(all, -l) {
				want = append(want, l)
			}
		}
		equal(t, "Pure", solve.Pure(f), want)
	}
}

func TestP1503None(t *testing.T) {
	t.Parallel()
	var none *solve.Solver
	is(t, "of nil", fmt.Sprint(none.Assume(), none.Assume(1), none.Model(), none.Steps()), "false false [] 0")
	for _, f := range oddFormulas() {
		s := solve.New(f)
		is(t, "what is not right", fmt.Sprint(s.Assume(), s.Assume(1), s.Model(), s.Steps()), "false false [] 0")
	}
	s := solve.New(cnf.Formula{N: 2, L: [][]int{{1}, {-1}}})
	is(t, "no model", fmt.Sprint(s.Assume(), s.Assume(2), s.Model()), "false false []")
	s = solve.New(cnf.Formula{})
	is(t, "no variable", fmt.Sprint(s.Assume(), s.Model(), s.Assume(1)), "true [] false")
}

func TestP1503Solver(t *testing.T) {
	t.Parallel()
	f := cnf.Formula{N: 3, L: [][]int{{1, 2}, {-2, 3}}}
	s := solve.New(f)
	is(t, "at first", s.Model(), "[false true true]")
	must(t, "some were set", s.Steps() > 0)
	is(t, "what stays", fmt.Sprint(s.Assume(-3), s.Model(), s.Assume(2), s.Model(), s.Assume(3), s.Assume(1, -2), s.Assume(), s.Model()), "true [true false false] false [true false false] false true true [true false false]")
	s.Model()[0] = false
	is(t, "Model is new", s.Model(), "[true false false]")
	s = solve.New(f)
	is(t, "both at once", fmt.Sprint(s.Assume(1, -1), s.Assume(0), s.Assume(4), s.Assume(-4), s.Assume(math.MinInt), s.Assume(1, 4), s.Model()), "false false false false false false [false true true]")
	for seed := range uint64(1500) {
		r := dice(seed)
		f := anyFormula(r, 6, 9, true)
		s := solve.New(f)
		left := modelsAgain(f)
		steps := 0
		for range 6 {
			var lits []int
			for range r.IntN(4) {
				lits = append(lits, (1+r.IntN(f.N+1))*(1-2*r.IntN(2)))
			}
			now := slices.DeleteFunc(slices.Clone(left), func(m []bool) bool {
				return slices.ContainsFunc(lits, func(l int) bool { return max(l, -l) > f.N || m[max(l, -l)-1] != (l > 0) })
			})
			got := s.Assume(lits...)
			is(t, fmt.Sprint("Assume ", f, lits), got, len(now) > 0)
			if got {
				left = now
			}
			var want []bool
			if len(left) > 0 {
				want = left[0]
			}
			if r.IntN(2) == 0 {
				equal(t, "Model", s.Model(), want)
				must(t, "some were set", len(want) == 0 || s.Steps() > 0)
			}
			must(t, "steps grow", s.Steps() >= steps)
			steps = s.Steps()
		}
	}
}

func TestP1504Found(t *testing.T) {
	t.Parallel()
	models := 0
	for seed := range uint64(60) {
		f := threes(seed, 60, 60*int(30+seed%20)/10)
		m, is1 := solve.Solve(f)
		is(t, "what is found is a model", cnf.Eval(f, m), is1)
		if !is1 {
			continue
		}
		models++
		// No model is ahead of the first one: each variable that is true in it must be, with those ahead as they are.
		s := solve.New(f)
		for v, is2 := range m {
			lit := -(v + 1)
			is(t, "the first one", s.Assume(lit), !is2)
			if is2 {
				must(t, "the first one", s.Assume(-lit))
			}
		}
	}
	must(t, "some had models", models > 10 && models < 60)
	for n := 2; n < 8; n++ {
		_, is1 := solve.Solve(pigeons(n, n))
		must(t, "as many pigeons as holes", is1)
		_, is1 = solve.Solve(pigeons(n+1, n))
		must(t, "one pigeon more", !is1)
	}
}
