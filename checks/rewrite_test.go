package checks

import (
	"fmt"
	"math"
	"slices"
	"testing"

	"usufruct/api"
	"usufruct/bl"
	"usufruct/ir"
	"usufruct/rewrite"
)

func TestP2701Mode(t *testing.T) {
	t.Parallel()
	m := everyBl()
	m.Funcs[1].Vars[3].Class, m.Funcs[0].Ret.Class, m.Funcs[0].Vars[0].Class = api.Own, api.Mut, api.Own
	// Of main: 9 gives 2, a Mut one; 10 takes into it; 13 calls g; of g: 0 takes into a Share one, 1 answers.
	for at := range m.Funcs[1].Ins {
		want := map[int]string{9: "[2]", 10: "[2]", 13: "[1 0]"}[at]
		if want == "" {
			want = "[]"
		}
		is(t, fmt.Sprint("Mode ", at), rewrite.Mode(m, 1, at), want)
	}
	is(t, "Mode of g", fmt.Sprint(rewrite.Mode(m, 0, 0), rewrite.Mode(m, 0, 1)), "[3] [2]")
	for _, n := range []int{-1, 2, 18, math.MinInt, math.MaxInt} {
		is(t, "of what is not there", fmt.Sprint(rewrite.Mode(m, n, 0), rewrite.Mode(m, 0, n)), "[] []")
	}
	m.Funcs[1].Ins[0].D = 9
	is(t, "of what is not right", rewrite.Mode(m, 1, 9), "[]")
}

func TestP2701Rewrite(t *testing.T) {
	t.Parallel()
	_, f := rewrite.Rewrite(api.Module{})
	is(t, "what is not right", f, api.NoMain)
	for what, by := range map[string]func(g, main *api.Code){
		"a number with a class":              func(g, main *api.Code) { main.Vars[0].Class = 1 },
		"a number's odd class":               func(g, main *api.Code) { main.Vars[0].Class = -1 },
		"a pointer without a class":          func(g, main *api.Code) { main.Vars[1].Class = 0 },
		"a pointer of class 4":               func(g, main *api.Code) { g.Vars[0].Class = 4 },
		"a pointer of class -1":              func(g, main *api.Code) { g.Vars[2].Class = -1 },
		"a result without a class":           func(g, main *api.Code) { g.Ret.Class = 0 },
		"a result that is a number":          func(g, main *api.Code) { main.Ret.Class = 3 },
		"the last variable, and not a right": func(g, main *api.Code) { main.Vars[4].Class = 3 },
	} {
		m := everyBl()
		by(&m.Funcs[0], &m.Funcs[1])
		n, f := rewrite.Rewrite(m)
		is(t, what, f, api.BadArg)
		equal(t, what, n, api.Module{})
		m.Funcs[1].Ins[0].D = 9
		_, f = rewrite.Rewrite(m)
		is(t, what+", and what is not right", f, api.Loose)
	}
	for seed, m := range someModules(500) {
		m = mixed(dice(uint64(seed)), m, false)
		m.Funcs[0].Ins[0].Mode, m.Funcs[0].From = []int{7, 8}, []int{9}
		before := cloned(m)
		got, f := rewrite.Rewrite(m)
		is(t, "fault", f, api.OK)
		want := byClasses(m)
		equal(t, "Rewrite", got, want)
		for f, c := range m.Funcs {
			at := seed % len(c.Ins)
			equal(t, "Mode", rewrite.Mode(m, f, at), want.Funcs[f].Ins[at].Mode)
		}
		spoil(got)
		must(t, "what was handed in stays", ir.Same(m, before))
	}
}

func TestP2702Source(t *testing.T) {
	t.Parallel()
	m := everyOp()
	m.Funcs[1].Ins[3].At, m.Funcs[0].Ins[0].At = api.Pos{Line: 40, Col: 41}, api.Pos{Line: 50, Col: 51}
	for _, c := range []struct{ d, want api.Diag }{
		{diag(25, api.Lent, 2, 4), diag(25, api.Lent, 40, 41)},
		{diag(22, api.Mistyped, 1, 1), diag(22, api.Mistyped, 50, 51)},
		{diag(28, api.Hollow, 2, 4), diag(28, api.Hollow, 40, 41)},
		{diag(math.MaxInt, api.OK, 2, 4), diag(math.MaxInt, api.OK, 40, 41)},
		{diag(22, api.Mistyped, 2, 1), diag(22, api.Mistyped, 0, 0)},
		{diag(21, api.Lent, 2, 4), diag(21, api.Lent, 2, 4)},
		{diag(18, api.Unsure, 2, 4), diag(18, api.Unsure, 2, 4)},
		{diag(-25, api.Unsure, 2, 4), diag(-25, api.Unsure, 2, 4)},
		{diag(22, api.NoMain, 0, 0), diag(22, api.NoMain, 0, 0)},
		{diag(25, api.Lent, 0, 4), diag(25, api.Lent, 0, 4)},
		{diag(25, api.Lent, 2, 0), diag(25, api.Lent, 2, 0)},
		{diag(25, api.Lent, 3, 1), diag(25, api.Lent, 3, 1)},
		{diag(25, api.Lent, 2, 19), diag(25, api.Lent, 2, 19)},
		{diag(25, api.Lent, 1, 3), diag(25, api.Lent, 1, 3)},
		{diag(25, api.Lent, math.MinInt, 1), diag(25, api.Lent, math.MinInt, 1)},
		{diag(25, api.Lent, 1, math.MinInt), diag(25, api.Lent, 1, math.MinInt)},
		{diag(25, api.Lent, math.MaxInt, math.MaxInt), diag(25, api.Lent, math.MaxInt, math.MaxInt)},
		{api.Diag{}, api.Diag{}},
	} {
		is(t, fmt.Sprint("Source ", c.d), rewrite.Source(m, c.d), c.want)
	}
	is(t, "of nothing", rewrite.Source(api.Module{}, diag(25, api.Lent, 1, 1)), diag(25, api.Lent, 1, 1))
}

func TestP2703Moves(t *testing.T) {
	t.Parallel()
	moves, lends := rewrite.Moves(everyBl())
	is(t, "Moves", fmt.Sprint(moves, lends), "1 4")
	m := api.Module{Funcs: []api.Code{{Ins: []api.Instr{{Op: api.Num, Mode: []int{1, 1, 2, 3, 0, 4, -1}}, {Op: 99, Mode: []int{1, 3, 3}}}}, {Ins: []api.Instr{{Mode: []int{2}}}}}}
	moves, lends = rewrite.Moves(m)
	is(t, "Moves of anything", fmt.Sprint(moves, lends), "3 5")
	moves, lends = rewrite.Moves(api.Module{})
	is(t, "Moves of nothing", fmt.Sprint(moves, lends), "0 0")
}

func TestP2704Laws(t *testing.T) {
	t.Parallel()
	for seed, m := range someModules(300) {
		m = mixed(dice(uint64(seed)), m, false)
		got, f := rewrite.Rewrite(m)
		is(t, "fault", f, api.OK)
		equal(t, "plain what the module was, plain", bl.Plain(got), bl.Plain(m))
		is(t, "formed", bl.Formed(got), api.OK)
		n := cloned(m)
		n.Structs = append(slices.Clone(n.Structs), api.Struct{Name: "no name"})
		got, f = rewrite.Rewrite(n)
		is(t, "a name that is none", fmt.Sprint(f, bl.Formed(got)), "0 3")
	}
}
