package checks

import (
	"fmt"
	"math"
	"slices"
	"testing"

	"usufruct/alias"
	"usufruct/api"
)

// reachedAgain: the sites that are reached from these, rising.
func (s *setsAgain) reachedAgain(from []int) []int {
	l := slices.Clone(from)
	for k := 0; k < len(l); k++ {
		at := s.sites[l[k]]
		for n := range s.m.Structs[s.m.Funcs[at[0]].Ins[at[1]].F].Fields {
			for _, x := range s.of(ofField(l[k], n)) {
				if !slices.Contains(l, x) {
					l = append(l, x)
				}
			}
		}
	}
	slices.Sort(l)
	return l
}

func (s *setsAgain) inner(site int) []int {
	at := s.sites[site]
	var l []int
	for n := range s.m.Structs[s.m.Funcs[at[0]].Ins[at[1]].F].Fields {
		for _, x := range s.of(ofField(site, n)) {
			if !slices.Contains(l, x) {
				l = append(l, x)
			}
		}
	}
	return l
}

func meet(a, b []int) bool {
	return slices.ContainsFunc(a, func(x int) bool { return slices.Contains(b, x) })
}

func TestP1301Example(t *testing.T) {
	t.Parallel()
	w, f := alias.Of(api.Module{})
	is(t, "what is not right", f, api.NoMain)
	must(t, "nothing", w == nil)
	m := lowered("struct S { S * n; int v; }; S * f() { S * r = new S; r->n = new S; return r; } int main() { S * a = new S; S * b = a; S * c = new S; b->n = c; c->n = c; put(a->v + b->v + c->v); S * d = f(); return d == null; }")
	w, f = alias.Of(m)
	is(t, "fault", f, api.OK)
	// Sites: 0 and 1 of f, 2 and 3 of main; variables of main: 0 a, 1 b, 2 c.
	is(t, "May", fmt.Sprint(w.May(1, 0, 1), w.May(1, 1, 0), w.May(1, 0, 2), w.May(1, 0, 0)), "true true false true")
	is(t, "Reach", fmt.Sprint(w.Reach(1, 0), w.Reach(1, 2), w.Reach(0, 0)), "[2 3] [3] [0 1]")
	is(t, "Inside", fmt.Sprint(w.Inside(1, 0, 2), w.Inside(1, 2, 0), w.Inside(1, 2, 2), w.Inside(1, 0, 0), w.Inside(1, 0, 1)), "true false true false false")
	is(t, "Ring", fmt.Sprint(w.Ring(0), w.Ring(1), w.Ring(2), w.Ring(3)), "false false false true")
	is(t, "Out", fmt.Sprint(w.Out(0), w.Out(1)), "[0 1] []")
	is(t, "Pairs", fmt.Sprint(w.Pairs(0), w.Pairs(1)), "[] [[0 1]]")
}

func TestP1301None(t *testing.T) {
	t.Parallel()
	var none *alias.View
	some, _ := alias.Of(lowered("struct S { S * n; }; int main() { S * a = new S; a->n = a; return 0; }"))
	is(t, "what is there", fmt.Sprint(some.May(0, 0, 0), some.Reach(0, 0), some.Inside(0, 0, 0), some.Ring(0)), "true [0] true true")
	for _, n := range []int{-1, 1, 5, 64, math.MinInt, math.MaxInt} {
		is(t, "of nil", fmt.Sprint(none.May(0, 0, 0), none.Reach(n, 0), none.Inside(0, 0, 0), none.Ring(n), none.Pairs(n), none.Out(n)), "false [] false false [] []")
		is(t, "of no function", fmt.Sprint(some.May(n, 0, 0), some.Reach(n, 0), some.Inside(n, 0, 0), some.Pairs(n), some.Out(n)), "false [] false [] []")
		is(t, "of no variable", fmt.Sprint(some.May(0, n, 0), some.May(0, 0, n), some.Reach(0, n), some.Inside(0, 0, n), some.Inside(0, n, 0), some.Ring(n)), "false false [] false false false")
	}
	is(t, "of nil", fmt.Sprint(none.Pairs(0), none.Out(0), none.Ring(0), none.Reach(0, 0)), "[] [] false []")
}

func TestP1302Chance(t *testing.T) {
	t.Parallel()
	for _, m := range someModules(300) {
		w, _ := alias.Of(m)
		s := pointsAgain(m)
		for x := range s.sites {
			is(t, "Ring", w.Ring(x), slices.Contains(s.reachedAgain(s.inner(x)), x))
		}
		for f, c := range m.Funcs {
			equal(t, "Out", w.Out(f), s.reachedAgain(s.of(ofResult(f))))
			asked := make([][]bool, len(c.Ins))
			for at := range c.Ins {
				asked[at] = make([]bool, len(c.Vars))
				for v := range c.Vars {
					asked[at][v] = askedAgain(c, at, v)
				}
			}
			var pairs [][2]int
			for a := range c.Vars {
				of := s.of(ofVar(f, a))
				equal(t, "Reach", w.Reach(f, a), s.reachedAgain(of))
				var in []int
				for _, x := range of {
					in = append(in, s.reachedAgain(s.inner(x))...)
				}
				for b := range c.Vars {
					may := meet(of, s.of(ofVar(f, b)))
					if w.May(f, a, b) != may || w.May(f, b, a) != may {
						t.Error("May", a, b)
					}
					if w.Inside(f, a, b) != meet(in, s.of(ofVar(f, b))) {
						t.Error("Inside", a, b)
					}
					both := slices.ContainsFunc(asked, func(l []bool) bool { return l[a] && l[b] })
					if a < b && may && both {
						pairs = append(pairs, [2]int{a, b})
					}
				}
			}
			equal(t, "Pairs", w.Pairs(f), pairs)
		}
	}
}

func TestP1303Runs(t *testing.T) {
	t.Parallel()
	pairs := 0
	for seed, m := range someModules(300) {
		w, _ := alias.Of(m)
		in, fails := tries(uint64(seed))
		r := &plainRun{heap: heap{dead: map[int64]bool{}, in: in, fails: fails}, m: m, fuel: 300}
		r.look = func(f, at int, v map[int]int64) {
			for a, x := range v {
				for b, y := range v {
					if m.Funcs[f].Vars[a].T.Ptr && m.Funcs[f].Vars[b].T.Ptr && x == y && x != 0 {
						must(t, "two variables that point to one cell may", w.May(f, a, b))
						pairs++
					}
				}
			}
		}
		r.run()
	}
	must(t, "there were some pairs", pairs > 1000)
}
