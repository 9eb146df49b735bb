package checks

import (
	"fmt"
	"math"
	"slices"
	"testing"

	"usufruct/api"
	"usufruct/lower"
	"usufruct/points"
)

// setsAgain: sets of sites by their names, gone through again and again till nothing is new.
type setsAgain struct {
	m     api.Module
	sites [][2]int
	sets  map[string]map[int]bool
	grew  bool
}

func ofVar(f, v int) string      { return fmt.Sprint("v", f, " ", v) }
func ofResult(f int) string      { return fmt.Sprint("r", f) }
func ofField(site, k int) string { return fmt.Sprint("f", site, " ", k) }

func (s *setsAgain) put(to string, sites ...int) {
	if s.sets[to] == nil {
		s.sets[to] = map[int]bool{}
	}
	for _, x := range sites {
		if !s.sets[to][x] {
			s.sets[to][x] = true
			s.grew = true
		}
	}
}

func (s *setsAgain) of(from string) []int {
	l := []int{}
	for x := range s.sets[from] {
		l = append(l, x)
	}
	slices.Sort(l)
	return l
}

func pointsAgain(m api.Module) *setsAgain {
	s := &setsAgain{m: m, sets: map[string]map[int]bool{}, grew: true}
	number := map[[2]int]int{}
	for f, c := range m.Funcs {
		for at, i := range c.Ins {
			if i.Op == api.New {
				number[[2]int{f, at}] = len(s.sites)
				s.sites = append(s.sites, [2]int{f, at})
			}
		}
	}
	for s.grew {
		s.grew = false
		for f, c := range m.Funcs {
			for at, i := range c.Ins {
				d, a := ofVar(f, i.D), ofVar(f, i.A)
				switch i.Op {
				case api.New:
					s.put(d, number[[2]int{f, at}])
				case api.Give:
					s.put(d, s.of(a)...)
				case api.Take:
					for _, x := range s.of(a) {
						s.put(d, s.of(ofField(x, i.F))...)
					}
				case api.Set:
					for _, x := range s.of(a) {
						s.put(ofField(x, i.F), s.of(ofVar(f, i.B))...)
					}
				case api.Call:
					for k, b := range i.Args {
						s.put(ofVar(i.F, k), s.of(ofVar(f, b))...)
					}
					s.put(d, s.of(ofResult(i.F))...)
				case api.Ret:
					s.put(ofResult(f), s.of(a)...)
				}
			}
		}
	}
	return s
}

// someModules: modules of programs whose names and types are right.
func someModules(n int) []api.Module {
	var l []api.Module
	for seed := range uint64(n) {
		if m, d := lower.Lower(sanely(seed)); d == (api.Diag{}) {
			l = append(l, m)
		}
	}
	return l
}

func TestP1201Of(t *testing.T) {
	t.Parallel()
	s, f := points.Of(api.Module{})
	is(t, "what is not right", f, api.NoMain)
	must(t, "nothing", s == nil)
	m := lowered("struct S { S * n; int v; }; S * f(S * a) { return a; } int main() { S * a = new S; S * b = a; b->n = new S; S * c = a->n; S * d = f(c); S * e = null; return 0; }")
	s, f = points.Of(m)
	is(t, "fault", f, api.OK)
	is(t, "Sites", s.Sites(), "[[1 0] [1 2]]")
	s.Sites()[0] = [2]int{9, 9}
	is(t, "Sites are new", s.Sites(), "[[1 0] [1 2]]")
	is(t, "Var", fmt.Sprint(s.Var(1, 0), s.Var(1, 1), s.Var(1, 2), s.Var(1, 3), s.Var(1, 4), s.Var(1, 5), s.Var(0, 0)), "[0] [0] [1] [1] [1] [] [1]")
	is(t, "Result", fmt.Sprint(s.Result(0), s.Result(1)), "[1] []")
	is(t, "Field", fmt.Sprint(s.Field(0, 0), s.Field(0, 1), s.Field(1, 0)), "[1] [] []")
	is(t, "Has", fmt.Sprint(s.Has(1, 0, 0), s.Has(1, 0, 1), s.Has(1, 3, 1), s.Has(0, 0, 1)), "true false true true")
	s.Var(1, 0)[0] = 9
	is(t, "Var is new", s.Var(1, 0), "[0]")
}

func TestP1202None(t *testing.T) {
	t.Parallel()
	var none *points.Sets
	is(t, "of nil", fmt.Sprint(none.Sites(), none.Var(0, 0), none.Result(0), none.Field(0, 0), none.Has(0, 0, 0), slices.Collect(none.Each(0, 0))), "[] [] [] [] false []")
	some, _ := points.Of(lowered("struct S { S * n; }; int main() { S * a = new S; a->n = a; return 0; }"))
	is(t, "of what is there", fmt.Sprint(some.Var(0, 0), some.Field(0, 0)), "[0] [0]")
	for _, n := range []int{-1, 5, 64, math.MinInt, math.MaxInt} {
		is(t, "of nil", fmt.Sprint(none.Var(n, n), none.Result(n), none.Field(n, n), none.Has(n, n, n)), "[] [] [] false")
		is(t, "of what is not there", fmt.Sprint(some.Var(n, 0), some.Var(0, n), some.Result(n), some.Field(n, 0), some.Field(0, n), some.Has(n, 0, 0), some.Has(0, n, 0), some.Has(0, 0, n), slices.Collect(some.Each(0, n))), "[] [] [] [] [] false false false []")
	}
}

func TestP1202Chance(t *testing.T) {
	t.Parallel()
	for _, m := range someModules(400) {
		s, f := points.Of(m)
		is(t, "fault", f, api.OK)
		want := pointsAgain(m)
		equal(t, "Sites", s.Sites(), want.sites)
		for f, c := range m.Funcs {
			equal(t, "Result", s.Result(f), want.of(ofResult(f)))
			for v := range c.Vars {
				set := want.of(ofVar(f, v))
				equal(t, "Var", s.Var(f, v), set)
				equal(t, "Each", slices.Collect(s.Each(f, v)), set)
				for x := range s.Each(f, v) {
					is(t, "Each, as far as it is asked", x, set[0])
					break
				}
				for x := range want.sites {
					is(t, "Has", s.Has(f, v, x), slices.Contains(set, x))
				}
			}
		}
		for x, p := range want.sites {
			for k := range m.Structs[m.Funcs[p[0]].Ins[p[1]].F].Fields {
				equal(t, "Field", s.Field(x, k), want.of(ofField(x, k)))
			}
		}
	}
}

func TestP1203Runs(t *testing.T) {
	t.Parallel()
	cells := 0
	for seed, m := range someModules(500) {
		s, _ := points.Of(m)
		sites := s.Sites()
		in, fails := tries(uint64(seed))
		r := &plainRun{heap: heap{dead: map[int64]bool{}, in: in, fails: fails}, m: m, fuel: 500}
		site := func(cell int64) int { return slices.Index(sites, r.sites[cell-1]) }
		r.look = func(f, at int, v map[int]int64) {
			for k, x := range v {
				if m.Funcs[f].Vars[k].T.Ptr && x != 0 {
					must(t, "each cell that a variable points to was made at a site of its set", s.Has(f, k, site(x)))
					cells++
				}
			}
		}
		r.run()
		for n, fields := range r.cells {
			at := r.sites[n]
			for k, g := range m.Structs[m.Funcs[at[0]].Ins[at[1]].F].Fields {
				if x := fields[string(rune('a'+k))]; g.T.Ptr && x != 0 {
					must(t, "so of each field", slices.Contains(s.Field(site(int64(n+1)), k), site(x)))
					cells++
				}
			}
		}
	}
	must(t, "there were some cells", cells > 1000)
}
