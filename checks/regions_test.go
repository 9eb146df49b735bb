package checks

import (
	"fmt"
	"math"
	"math/rand/v2"
	"slices"
	"strings"
	"testing"

	"usufruct/api"
	"usufruct/ir"
	"usufruct/regions"
)

// mixed: a module with some classes, whatever is right; at times with such as are none.
func mixed(r *rand.Rand, m api.Module, odd bool) api.Module {
	m = cloned(m)
	class := func(v *api.Var) {
		if v.T.Ptr {
			v.Class = pick(r, []int{1, 2, 3, 3, 3})
		}
		if odd && r.IntN(10) == 0 {
			v.Class = pick(r, []int{0, 2, 4, -1})
		}
	}
	for f := range m.Funcs {
		for v := range m.Funcs[f].Vars {
			class(&m.Funcs[f].Vars[v])
		}
		class(&m.Funcs[f].Ret)
	}
	return m
}

func lentAgain(v api.Var) bool { return v.T.Ptr && (v.Class == 2 || v.Class == 3) }

// originsAgain: origins by names, in rounds; how many rounds it took.
func originsAgain(m api.Module) (map[string][]int, int) {
	sets := map[string][]int{}
	grown := false
	put := func(to string, l []int) {
		for _, p := range l {
			if !slices.Contains(sets[to], p) {
				sets[to] = append(slices.Clone(sets[to]), p)
				slices.Sort(sets[to])
				grown = true
			}
		}
	}
	for f, c := range m.Funcs {
		for p := range c.Params {
			if lentAgain(c.Vars[p]) {
				put(ofVar(f, p), []int{p})
			}
		}
	}
	for rounds := 1; ; rounds++ {
		grown = false
		for f, c := range m.Funcs {
			for _, i := range c.Ins {
				switch i.Op {
				case api.Give, api.Take:
					if lentAgain(c.Vars[i.D]) && lentAgain(c.Vars[i.A]) {
						put(ofVar(f, i.D), sets[ofVar(f, i.A)])
					}
				case api.Call:
					for k, a := range i.Args {
						if lentAgain(c.Vars[i.D]) && lentAgain(c.Vars[a]) && slices.Contains(sets[ofResult(i.F)], k) {
							put(ofVar(f, i.D), sets[ofVar(f, a)])
						}
					}
				case api.Ret:
					if lentAgain(c.Ret) && lentAgain(c.Vars[i.A]) {
						put(ofResult(f), sets[ofVar(f, i.A)])
					}
				}
			}
		}
		if !grown {
			return sets, rounds
		}
	}
}

func signOf(v api.Var, origin bool) string {
	if !v.T.Ptr {
		return "int"
	}
	word := map[int]string{0: "plain", 1: "own", 2: "mut", 3: "share"}[v.Class]
	s := word + " " + v.T.To
	if origin {
		s += " 'r"
	}
	return s
}

func TestP1901Example(t *testing.T) {
	t.Parallel()
	m := lowered("struct S { S * n; }; S * f(S * a, S * b) { return b; } S * g(int i, S * x, S * y) { if (i) { return f(y, x); } return x->n; } int main() { return 0; }")
	for f := range m.Funcs {
		for v := range m.Funcs[f].Vars {
			if m.Funcs[f].Vars[v].T.Ptr {
				m.Funcs[f].Vars[v].Class = api.Share
			}
		}
		m.Funcs[f].Ret.Class = api.Share * btoi(m.Funcs[f].Ret.T.Ptr)
	}
	r, f := regions.Of(m)
	is(t, "fault", f, api.OK)
	is(t, "From", fmt.Sprint(r.From(0), r.From(1), r.From(2)), "[1] [1] []")
	is(t, "Var", fmt.Sprint(r.Var(0, 0), r.Var(0, 1), r.Var(1, 0), r.Var(1, 1), r.Var(1, 2), r.Var(1, 3)), "[0] [1] [] [1] [2] [1]")
	is(t, "Sign", r.Sign(0)+" "+r.Sign(1)+" "+r.Sign(2), "f(share S, share S 'r) -> share S 'r g(int, share S 'r, share S) -> share S 'r main() -> int")
	is(t, "Rounds", r.Rounds(), 2)
	r.From(0)[0] = 9
	is(t, "From is new", r.From(0), "[1]")
	_, f = regions.Of(api.Module{})
	is(t, "what is not right", f, api.NoMain)
}

func TestP1901None(t *testing.T) {
	t.Parallel()
	var none *regions.Regions
	equal(t, "Module of nil", none.Module(), api.Module{})
	is(t, "of nil", fmt.Sprint(none.From(0), none.Var(0, 0), none.Rounds(), none.Sign(0) == ""), "[] [] 0 true")
	some, _ := regions.Of(lowered("struct S { S * n; }; S * f(S * a) { return a; } int main() { return 0; }"))
	for _, n := range []int{-1, 2, 64, math.MinInt, math.MaxInt} {
		is(t, "of nil", fmt.Sprint(none.From(n), none.Var(n, n), none.Sign(n) == ""), "[] [] true")
		is(t, "of what is not there", fmt.Sprint(some.From(n), some.Var(n, 0), some.Var(0, n), some.Sign(n) == ""), "[] [] [] true")
	}
	is(t, "of what is just not there", fmt.Sprint(some.Var(0, 0), some.Var(0, 1), some.From(2), some.Var(2, 0)), "[] [] [] []")
	must(t, "Lent", regions.Lent(api.Var{T: to("S"), Class: 2}) && regions.Lent(api.Var{T: to("S"), Class: 3}))
	for _, v := range []api.Var{{}, {Class: 2}, {Class: 3}, {T: to("S")}, {T: to("S"), Class: 1}, {T: to("S"), Class: 4}, {T: to("S"), Class: -1}} {
		must(t, fmt.Sprint("not lent ", v), !regions.Lent(v))
	}
}

func TestP1902Chance(t *testing.T) {
	t.Parallel()
	rounds := map[int]int{}
	for seed, m := range someModules(800) {
		m = mixed(dice(uint64(seed)), m, true)
		r, f := regions.Of(m)
		is(t, "fault", f, api.OK)
		sets, n := originsAgain(m)
		rounds[n]++
		is(t, "Rounds", r.Rounds(), n)
		with := cloned(m)
		for f, c := range m.Funcs {
			from := sets[ofResult(f)]
			equal(t, "From", r.From(f), from)
			with.Funcs[f].From = from
			var params []string
			for v, x := range c.Vars {
				equal(t, "Var", r.Var(f, v), sets[ofVar(f, v)])
				if v < c.Params {
					params = append(params, signOf(x, slices.Contains(from, v)))
				}
				if !lentAgain(x) {
					is(t, "what is not lent has no origin", len(r.Var(f, v)), 0)
				}
			}
			is(t, "Sign", r.Sign(f), c.Name+"("+strings.Join(params, ", ")+") -> "+signOf(c.Ret, lentAgain(c.Ret)))
		}
		before := cloned(m)
		got := r.Module()
		equal(t, "Module", got, with)
		spoil(got)
		must(t, "what was handed in stays", ir.Same(m, before))
	}
	must(t, fmt.Sprint("some take more rounds ", rounds), rounds[1] > 10 && rounds[2] > 10 && rounds[3] > 0)
}

func TestP1902Rounds(t *testing.T) {
	t.Parallel()
	// Each function's result comes from the one behind it: so it takes a round for each.
	src := "struct S { S * n; }; "
	for k := range 6 {
		src += fmt.Sprintf("S * f%d(S * a) { return f%d(a); } ", k, k+1)
	}
	m := lowered(src + "S * f6(S * a) { return a; } int main() { return 0; }")
	for f := range m.Funcs[:7] {
		for v := range m.Funcs[f].Vars {
			m.Funcs[f].Vars[v].Class = api.Mut
		}
		m.Funcs[f].Ret.Class = api.Mut
	}
	r, _ := regions.Of(m)
	is(t, "Rounds", r.Rounds(), 8)
	is(t, "From", fmt.Sprint(r.From(0), r.From(6)), "[0] [0]")
	slices.Reverse(m.Funcs[:7])
	for f := range m.Funcs[:7] {
		if f > 0 {
			m.Funcs[f].Ins[0].F = f - 1
		}
	}
	r, _ = regions.Of(m)
	is(t, "Rounds, the other way", r.Rounds(), 2)
	r, _ = regions.Of(lowered(mainText))
	is(t, "Rounds of nothing new", r.Rounds(), 1)
}

func TestP1903Laws(t *testing.T) {
	t.Parallel()
	for seed, m := range someModules(300) {
		m = mixed(dice(uint64(seed)), m, false)
		r, _ := regions.Of(m)
		again, f := regions.Of(r.Module())
		is(t, "fault", f, api.OK)
		for f, c := range m.Funcs {
			equal(t, "From stays", again.From(f), r.From(f))
			for _, i := range c.Ins {
				if i.Op == api.Give && lentAgain(c.Vars[i.D]) && lentAgain(c.Vars[i.A]) {
					for _, p := range r.Var(f, i.A) {
						must(t, "an origin of what it is given from is one of its own", slices.Contains(r.Var(f, i.D), p))
					}
				}
			}
		}
	}
}
