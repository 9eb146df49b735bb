package checks

import (
	"fmt"
	"math"
	"math/rand/v2"
	"slices"
	"testing"

	"usufruct/cnf"
	"usufruct/proof"
	"usufruct/solve"
)

// clausesAgain: of each step its clause, as far as they resolve.
func clausesAgain(f cnf.Formula, l []proof.Step) ([][]int, bool) {
	all := slices.Clone(f.L)
	for _, s := range l {
		if s.A < 0 || s.A >= len(all) || s.B < 0 || s.B >= len(all) {
			return all[len(f.L):], false
		}
		c, is := cnf.Resolve(all[s.A], all[s.B], s.On)
		if !is {
			return all[len(f.L):], false
		}
		all = append(all, c)
	}
	return all[len(f.L):], true
}

func TestP1601Clauses(t *testing.T) {
	t.Parallel()
	f := cnf.Formula{N: 3, L: [][]int{{1, 2}, {-1, 3}, {-2}, {-3}}}
	good := []proof.Step{{A: 0, B: 1, On: 1}, {A: 4, B: 2, On: 2}, {A: 5, B: 3, On: 3}}
	got, is1 := proof.Clauses(f, good)
	is(t, "Clauses", fmt.Sprint(got, is1, proof.Check(f, good)), "[[2 3] [3] []] true true")
	for _, c := range []struct {
		l    []proof.Step
		want string
	}{
		{nil, "[] true false"}, {good[:2], "[[2 3] [3]] true false"}, {[]proof.Step{good[0], {A: 4, B: 2, On: 3}}, "[[2 3]] false false"}, {[]proof.Step{{A: 1, B: 0, On: 1}}, "[] false false"},
		{[]proof.Step{{A: 0, B: 4, On: 1}}, "[] false false"}, {[]proof.Step{{A: 4, B: 0, On: 1}}, "[] false false"}, {[]proof.Step{{A: -1, B: 0, On: 1}}, "[] false false"}, {[]proof.Step{{A: 0, B: 1, On: -1}}, "[] false false"},
		{[]proof.Step{{A: 0, B: 1, On: 0}}, "[] false false"}, {[]proof.Step{{A: math.MaxInt, B: math.MinInt, On: 1}}, "[] false false"}, {append(slices.Clone(good), proof.Step{A: 9, B: 9, On: 1}), "[[2 3] [3] []] false false"},
		{append(slices.Clone(good), proof.Step{A: 0, B: 2, On: 2}), "[[2 3] [3] [] [1]] true true"}, {[]proof.Step{good[0], {A: 5, B: 3, On: 3}}, "[[2 3]] false false"},
	} {
		got, is1 := proof.Clauses(f, c.l)
		is(t, fmt.Sprint("Clauses ", c.l), fmt.Sprint(got, is1, proof.Check(f, c.l)), c.want)
	}
	empty := cnf.Formula{N: 1, L: [][]int{{1}, {}}}
	is(t, "an empty clause of the formula", fmt.Sprint(proof.Check(empty, nil), proof.Check(empty, []proof.Step{{A: 0, B: 0, On: 1}})), "true false")
	for _, f := range oddFormulas() {
		got, is1 := proof.Clauses(f, nil)
		steps, is2 := proof.Refute(f)
		is(t, "what is not right", fmt.Sprint(got, is1, proof.Check(f, nil), steps, is2, proof.Core(f, nil), proof.Trim(f, nil)), "[] false false [] false [] []")
	}
	odd := cnf.Formula{N: 1, L: [][]int{{}, {2}}}
	is(t, "what is not right, though a clause is empty", fmt.Sprint(proof.Check(odd, nil), proof.Core(odd, nil)), "false []")
	for seed := range uint64(3000) {
		r := dice(seed)
		f := anyFormula(r, 3, 6, false)
		var l []proof.Step
		for range r.IntN(5) {
			l = append(l, proof.Step{A: r.IntN(len(f.L)+len(l)+1) - r.IntN(20)/19, B: r.IntN(len(f.L) + len(l) + 1), On: r.IntN(4)})
		}
		want, ok := clausesAgain(f, l)
		got, is1 := proof.Clauses(f, l)
		equal(t, fmt.Sprint("Clauses ", f, l), got, want)
		is(t, "Clauses", is1, ok)
		isEmpty := func(c []int) bool { return len(c) == 0 }
		is(t, "Check", proof.Check(f, l), ok && (slices.ContainsFunc(f.L, isEmpty) || slices.ContainsFunc(want, isEmpty)))
	}
}

func TestP1602Refute(t *testing.T) {
	t.Parallel()
	l, is1 := proof.Refute(cnf.Formula{N: 1, L: [][]int{{1}, {-1}}})
	is(t, "the example", fmt.Sprint(l, is1), "[{0 1 1}] true")
	l, is1 = proof.Refute(cnf.Formula{N: 1, L: [][]int{{-1}, {1}}})
	is(t, "the other way", fmt.Sprint(l, is1), "[{1 0 1}] true")
	f := cnf.Formula{N: 2, L: [][]int{{1, 1}, {2, -2}, {-1, -1, -1}}}
	l, is1 = proof.Refute(f)
	is(t, "literals twice", fmt.Sprint(is1, proof.Check(f, l)), "true true")
	f = cnf.Formula{N: 2, L: [][]int{{1}, {}, {-1}}}
	l, is1 = proof.Refute(f)
	is(t, "an empty clause", fmt.Sprint(is1, proof.Check(f, l)), "true true")
	refuted := 0
	for seed := range uint64(3000) {
		f := anyFormula(dice(seed), 6, 16, true)
		l, is1 := proof.Refute(f)
		is(t, fmt.Sprint("Refute ", f), is1, len(modelsAgain(f)) == 0)
		is(t, fmt.Sprint("Check ", f, l), proof.Check(f, l), is1)
		if is1 {
			refuted++
			checkCore(t, f, l)
		} else {
			is(t, "no steps", len(l), 0)
		}
	}
	must(t, "some have no model", refuted > 300)
	for n := 2; n < 7; n++ {
		f := pigeons(n+1, n)
		l, is1 := proof.Refute(f)
		is(t, fmt.Sprint("pigeons ", n), fmt.Sprint(is1, proof.Check(f, l)), "true true")
	}
	for seed := range uint64(20) {
		f := threes(seed, 40, 240)
		_, has := solve.Solve(f)
		l, is1 := proof.Refute(f)
		is(t, "threes", fmt.Sprint(is1, proof.Check(f, l)), fmt.Sprint(!has, !has))
		if is1 {
			core := proof.Core(f, l)
			g := cnf.Formula{N: f.N}
			for _, n := range core {
				g.L = append(g.L, f.L[n])
			}
			_, has = solve.Solve(g)
			is(t, "the core has no model", has, false)
			trimmed := proof.Trim(f, l)
			is(t, "what is trimmed is a proof", proof.Check(f, trimmed), true)
		}
	}
}

// checkCore: of a proof the core has no model, and what is trimmed is a proof of just that.
func checkCore(t *testing.T, f cnf.Formula, l []proof.Step) {
	t.Helper()
	core, trimmed := coreAgain(f, l)
	equal(t, fmt.Sprint("Core ", f, l), proof.Core(f, l), core)
	equal(t, fmt.Sprint("Trim ", f, l), proof.Trim(f, l), trimmed)
	g := cnf.Formula{N: f.N}
	for _, n := range core {
		g.L = append(g.L, f.L[n])
	}
	must(t, "the core has no model", len(modelsAgain(g)) == 0)
	must(t, "what is trimmed is a proof", proof.Check(f, trimmed))
}

// coreAgain: by the numbers that the first empty clause comes from.
func coreAgain(f cnf.Formula, l []proof.Step) (core []int, trimmed []proof.Step) {
	made, _ := clausesAgain(f, l)
	all := append(slices.Clone(f.L), made...)
	first := slices.IndexFunc(all, func(c []int) bool { return len(c) == 0 })
	need := map[int]bool{}
	var ask func(n int)
	ask = func(n int) {
		if need[n] {
			return
		}
		need[n] = true
		if n >= len(f.L) {
			ask(l[n-len(f.L)].A)
			ask(l[n-len(f.L)].B)
		}
	}
	ask(first)
	number := map[int]int{}
	for n := range all {
		switch {
		case n < len(f.L):
			number[n] = n
			if need[n] {
				core = append(core, n)
			}
		case need[n]:
			number[n] = len(f.L) + len(trimmed)
			s := l[n-len(f.L)]
			trimmed = append(trimmed, proof.Step{A: number[s.A], B: number[s.B], On: s.On})
		}
	}
	return core, trimmed
}

// padded: a proof with steps between that nobody needs.
func padded(r *rand.Rand, f cnf.Formula, l []proof.Step) []proof.Step {
	number := map[int]int{}
	for n := range f.L {
		number[n] = n
	}
	var more []proof.Step
	for k, s := range l {
		for range r.IntN(3) {
			made, _ := clausesAgain(f, more)
			all := append(slices.Clone(f.L), made...)
			a, b := r.IntN(len(all)), r.IntN(len(all))
			for v := 1; v <= f.N; v++ {
				if c, is := cnf.Resolve(all[a], all[b], v); is && len(c) > 0 {
					more = append(more, proof.Step{A: a, B: b, On: v})
					break
				}
			}
		}
		number[len(f.L)+k] = len(f.L) + len(more)
		more = append(more, proof.Step{A: number[s.A], B: number[s.B], On: s.On})
	}
	return more
}

func TestP1603Core(t *testing.T) {
	t.Parallel()
	f := cnf.Formula{N: 3, L: [][]int{{3}, {1}, {2, -1}, {-1}, {-2}}}
	l := []proof.Step{{A: 1, B: 2, On: 1}, {A: 1, B: 3, On: 1}, {A: 5, B: 4, On: 2}}
	is(t, "Core", proof.Core(f, l), "[1 3]")
	is(t, "Trim", proof.Trim(f, l), "[{1 3 1}]")
	l = []proof.Step{{A: 1, B: 2, On: 1}, {A: 5, B: 4, On: 2}, {A: 1, B: 3, On: 1}}
	is(t, "Core, of the first one", proof.Core(f, l), "[1 2 4]")
	is(t, "Trim, of the first one", proof.Trim(f, l), "[{1 2 1} {5 4 2}]")
	for _, l := range [][]proof.Step{nil, l[:1], {{A: 9, B: 9, On: 1}}, append(slices.Clone(l), proof.Step{})} {
		is(t, fmt.Sprint("no proof ", l), fmt.Sprint(proof.Core(f, l), proof.Trim(f, l)), "[] []")
	}
	empty := cnf.Formula{N: 2, L: [][]int{{1}, {-1}, {}, {}}}
	is(t, "an empty clause of the formula", fmt.Sprint(proof.Core(empty, nil), proof.Trim(empty, nil)), "[2] []")
	is(t, "an empty clause of the formula, and steps", fmt.Sprint(proof.Core(empty, []proof.Step{{A: 0, B: 1, On: 1}}), proof.Trim(empty, []proof.Step{{A: 0, B: 1, On: 1}})), "[2] []")
	is(t, "Text", proof.Text(l), "1 2 1\n5 4 2\n1 3 1\n")
	is(t, "Text of nothing", proof.Text(nil), "")
	is(t, "Text of anything", proof.Text([]proof.Step{{A: -1, B: math.MinInt, On: 0}}), fmt.Sprint(-1, math.MinInt, 0, "\n"))
	for seed := range uint64(600) {
		r := dice(seed)
		f := anyFormula(r, 5, 16, false)
		if l, is1 := proof.Refute(f); is1 {
			checkCore(t, f, padded(r, f, l))
		}
	}
}

func TestP1604Laws(t *testing.T) {
	t.Parallel()
	for seed := range uint64(800) {
		f := anyFormula(dice(seed), 5, 14, true)
		l, is1 := proof.Refute(f)
		_, has := solve.Solve(f)
		is(t, "a proof, or a model", is1, !has)
		is(t, "what has a proof has no model", proof.Check(f, l) && has, false)
	}
}
