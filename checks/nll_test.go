package checks

import (
	"fmt"
	"math"
	"slices"
	"testing"

	"usufruct/api"
	"usufruct/moves"
	"usufruct/nll"
)

// operandsOf: of each use of an instruction its operand.
func operandsOf(c api.Code, i api.Instr) []int {
	switch i.Op {
	case api.Set:
		return []int{0, 1}
	case api.Call:
		l := []int{}
		for k, a := range i.Args {
			if c.Vars[a].T.Ptr {
				l = append(l, k)
			}
		}
		return l
	}
	return []int{0}
}

// clashesAgain: all clashes of a function, and the instructions that are short, as the chapter says.
func clashesAgain(m api.Module, c api.Code) ([]nll.Clash, []int) {
	all := loansAgain(c)
	h := heldAgain(m, c)
	clashes, short := []nll.Clash{}, []int{}
	for at, i := range c.Ins {
		if h[at] == nil {
			continue
		}
		uses := usesAgain(c, i)
		operands := operandsOf(c, i)
		d, writes := writesAgain(i)
		try := func(v, kind, operand int) {
			look := func(holder int, held map[int]bool) {
				for _, n := range sorted(held) {
					if all[n].Root == v && (all[n].Kind == 2 || kind >= 2) {
						clashes = append(clashes, nll.Clash{At: at, Var: v, Kind: kind, Loan: n, Holder: holder})
					}
				}
			}
			for x := range c.Vars {
				if askedAgain(c, at, x) && !(writes && x == d) {
					look(x, h[at][x])
				}
			}
			for k, u := range uses {
				if operands[k] == operand {
					continue
				}
				o := operands[k]
				if o < len(i.Mode) && (i.Mode[o] == 2 || i.Mode[o] == 3) {
					look(-1, usedAgain(c, all, h[at], at, o, u.Var))
				} else if lentAgain(c.Vars[u.Var]) {
					look(-1, h[at][u.Var])
				}
			}
		}
		for k, u := range uses {
			try(u.Var, u.Kind, operands[k])
		}
		if writes && c.Vars[d].Class == 1 {
			try(d, 3, -1)
		}
		if i.Op == api.Ret && len(i.Mode) == 1 && i.Mode[0] != 1 {
			is := c.Vars[i.A].Class == 1
			for n := range h[at][i.A] {
				x := all[n]
				is = is || x.At >= 0 && c.Vars[x.Root].Class == 1 || x.At == -1 && !slices.Contains(c.From, x.Arg)
			}
			if is {
				short = append(short, at)
			}
		}
	}
	return clashes, short
}

func TestP2501Example(t *testing.T) {
	t.Parallel()
	own, share, mut := api.Var{T: to("S"), Class: 1}, api.Var{T: to("S"), Class: 3}, api.Var{T: to("S"), Class: 2}
	S := []api.Struct{{Name: "S", Fields: []api.Field{{Name: "n", T: to("S")}, {Name: "v"}}}}
	f := api.Code{Name: "f", Params: 2, Vars: []api.Var{mut, share}, Ret: share, From: []int{1}, Ins: []api.Instr{{Op: api.Ret, A: 1, Mode: []int{3}}}}
	g := api.Code{Name: "g", Params: 2, Vars: []api.Var{own, share, {}}, Ins: []api.Instr{{Op: api.Num, D: 2}, {Op: api.Ret, A: 2}}}
	main := func(l ...api.Instr) api.Module {
		l = append([]api.Instr{{Op: api.New, D: 0}, {Op: api.Null, D: 1}, {Op: api.Null, D: 3}, {Op: api.Num, D: 2}, {Op: api.New, D: 4}}, append(l, api.Instr{Op: api.Ret, A: 2})...)
		return api.Module{Structs: S, Funcs: []api.Code{f, g, {Name: "main", Vars: []api.Var{own, share, {}, mut, own}, Ins: l}}}
	}
	give := func(d, a, mode int) api.Instr { return api.Instr{Op: api.Give, D: d, A: a, Mode: []int{mode}} }
	look := func(v int) api.Instr { return api.Instr{Op: api.IsNull, D: 2, A: v, Sign: "=="} }
	call := func(f, a, b, d int, modes ...int) api.Instr {
		return api.Instr{Op: api.Call, F: f, D: d, Args: []int{a, b}, Mode: modes}
	}
	free := api.Instr{Op: api.Free, A: 0}
	for _, c := range []struct {
		what string
		m    api.Module
		want string
	}{
		{"the example", main(give(1, 0, 3), free, look(1)), "{25 12 {3 7}} [{6 0 3 0 1}]"},
		{"not asked any more", main(give(1, 0, 3), look(1), free), "{0 0 {0 0}} []"},
		{"looked at, lent to look at", main(give(1, 0, 3), look(0), look(1)), "{0 0 {0 0}} []"},
		{"changed, lent to look at", main(give(1, 0, 3), api.Instr{Op: api.Store, A: 0, F: 1, B: 2}, look(1)), "{25 12 {3 7}} [{6 0 2 0 1}]"},
		{"looked at, lent to change", main(give(3, 0, 2), look(0), look(3)), "{25 12 {3 7}} [{6 0 1 0 3}]"},
		{"made anew, lent to look at", main(give(1, 0, 3), api.Instr{Op: api.New, D: 0}, look(1)), "{25 12 {3 7}} [{6 0 3 0 1}]"},
		{"lent anew", main(give(1, 0, 3), api.Instr{Op: api.Null, D: 1}, free, look(1)), "{0 0 {0 0}} []"},
		{"written by the holder", main(give(3, 0, 2), give(3, 0, 2), look(3)), "{0 0 {0 0}} []"},
		{"lent on", main(give(3, 0, 2), give(1, 3, 3), free, look(1)), "{25 12 {3 8}} [{7 0 3 0 1}]"},
		{"lent twice to look at", main(call(0, 4, 0, 1, 2, 3), look(1)), "{0 0 {0 0}} []"},
		{"lent twice, once to change", main(call(0, 0, 0, 1, 2, 3), look(1)), "{25 12 {3 6}} [{5 0 2 1 -1} {5 0 1 0 -1}]"},
		{"given away, and lent", main(call(1, 0, 0, 2, 1, 3)), "{23 11 {3 6}} [{5 0 3 0 -1}]"},
		{"what a call answers", main(call(0, 4, 0, 1, 2, 3), free, look(1)), "{25 12 {3 7}} [{6 0 3 1 1}]"},
		{"what a call does not answer", main(call(0, 0, 4, 1, 2, 3), free, look(1)), "{0 0 {0 0}} []"},
		{"taken out of, and lent", main(give(1, 0, 3), api.Instr{Op: api.Take, D: 4, A: 0, Mode: []int{1}}, look(1)), "{25 12 {3 7}} [{6 0 2 0 1}]"},
		{"set, with what holds", main(give(3, 4, 2), api.Instr{Op: api.Set, A: 3, B: 4}, look(0)), "{25 12 {3 7}} [{6 4 3 0 -1}]"},
		{"not reached", main(give(1, 0, 3), api.Instr{Op: api.Jump, To: 8}, free, look(1)), "{0 0 {0 0}} []"},
	} {
		got := nll.Clashes(c.m, 2)
		want, _ := clashesAgain(c.m, c.m.Funcs[2])
		equal(t, c.what, got, want)
		d := nll.Check(c.m)
		is(t, c.what, fmt.Sprint("{", d.Stage, " ", int(d.What), " ", d.At, "} ", got), c.want)
		is(t, c.what, nll.Accept(c.m), d == api.Diag{})
	}
}

func TestP2501Short(t *testing.T) {
	t.Parallel()
	own, share, mut := api.Var{T: to("S"), Class: 1}, api.Var{T: to("S"), Class: 3}, api.Var{T: to("S"), Class: 2}
	S := []api.Struct{{Name: "S", Fields: []api.Field{{Name: "n", T: to("S")}, {Name: "v"}}}}
	main := api.Code{Name: "main", Vars: []api.Var{{}}, Ins: []api.Instr{{Op: api.Num}, {Op: api.Ret}}}
	ret := func(v, mode int) api.Instr { return api.Instr{Op: api.Ret, A: v, Mode: []int{mode}} }
	give := func(d, a, mode int) api.Instr { return api.Instr{Op: api.Give, D: d, A: a, Mode: []int{mode}} }
	for _, c := range []struct {
		what string
		f    api.Code
		want string
	}{
		{"a parameter", api.Code{Params: 1, Vars: []api.Var{share}, Ret: share, From: []int{0}, Ins: []api.Instr{ret(0, 3)}}, "0 []"},
		{"a parameter that is not told", api.Code{Params: 1, Vars: []api.Var{share}, Ret: share, Ins: []api.Instr{ret(0, 3)}}, "13 [0]"},
		{"another parameter", api.Code{Params: 2, Vars: []api.Var{share, share}, Ret: share, From: []int{1}, Ins: []api.Instr{ret(0, 3)}}, "13 [0]"},
		{"what is owned", api.Code{Params: 1, Vars: []api.Var{own}, Ret: share, Ins: []api.Instr{ret(0, 3)}}, "13 [0]"},
		{"of what is owned", api.Code{Params: 1, Vars: []api.Var{own, share}, Ret: share, Ins: []api.Instr{give(1, 0, 3), ret(1, 3)}}, "13 [1]"},
		{"an owned one, given on", api.Code{Params: 1, Vars: []api.Var{own}, Ret: own, Ins: []api.Instr{ret(0, 1)}}, "0 []"},
		{"of what is lent to change", api.Code{Params: 1, Vars: []api.Var{mut, share}, Ret: share, From: []int{0}, Ins: []api.Instr{give(1, 0, 3), ret(1, 3)}}, "0 []"},
		{"to change", api.Code{Params: 1, Vars: []api.Var{mut}, Ret: mut, From: []int{0}, Ins: []api.Instr{ret(0, 2)}}, "0 []"},
		{"null", api.Code{Params: 0, Vars: []api.Var{share}, Ret: share, Ins: []api.Instr{{Op: api.Null, D: 0}, ret(0, 3)}}, "0 []"},
		{"not reached", api.Code{Params: 1, Vars: []api.Var{share}, Ret: share, Ins: []api.Instr{{Op: api.Jump, To: 0}, ret(0, 3)}}, "0 []"},
		{"a clash first", api.Code{Params: 1, Vars: []api.Var{own, share, {}}, Ret: share, Ins: []api.Instr{{Op: api.Num, D: 2}, give(1, 0, 3), {Op: api.Store, A: 0, F: 1, B: 2}, ret(1, 3)}}, "12 [3]"},
	} {
		c.f.Name = "f"
		m := api.Module{Structs: S, Funcs: []api.Code{c.f, main}}
		is(t, c.what, fmt.Sprint(int(nll.Check(m).What), " ", nll.Short(m, 0)), c.want)
		is(t, "of main", nll.Short(m, 1), "[]")
	}
}

func TestP2501None(t *testing.T) {
	t.Parallel()
	m := everyBl()
	for _, n := range []int{-1, 2, 64, math.MinInt, math.MaxInt} {
		is(t, "of no function", fmt.Sprint(nll.Clashes(m, n), nll.Short(m, n)), "[] []")
	}
	is(t, "of what is not formed", fmt.Sprint(nll.Clashes(everyOp(), 0), nll.Short(everyOp(), 0), nll.Check(api.Module{}), nll.Accept(api.Module{})), "[] [] {22 9 {0 0}} false")
}

func TestP2502Chance(t *testing.T) {
	t.Parallel()
	found := map[string]int{}
	for _, m := range lentModules(1500) {
		want := moves.Check(m)
		passed := want == api.Diag{}
		for f, c := range m.Funcs {
			clashes, short := clashesAgain(m, c)
			equal(t, "Clashes", nll.Clashes(m, f), clashes)
			equal(t, "Short", nll.Short(m, f), short)
			found["clashes"] += len(clashes)
			found["short"] += len(short)
			if want != (api.Diag{}) {
				continue
			}
			for at := range c.Ins {
				what := api.OK
				if slices.Contains(short, at) {
					what = api.Short
				}
				if slices.ContainsFunc(clashes, func(x nll.Clash) bool { return x.At == at }) {
					what = api.Lent
				}
				if what != api.OK {
					want = diag(25, what, f+1, at+1)
					break
				}
			}
		}
		if passed {
			found[fmt.Sprint("what ", int(want.What))]++
		}
		is(t, "Check", nll.Check(m), want)
		is(t, "Accept", nll.Accept(m), want == api.Diag{})
	}
	must(t, fmt.Sprint("all kinds ", found), found["clashes"] > 500 && found["short"] > 50 && found["what 0"] > 30 && found["what 12"] > 10)
}

func TestP2503Laws(t *testing.T) {
	t.Parallel()
	for _, m := range lentModules(500) {
		for f, c := range m.Funcs {
			lent := slices.ContainsFunc(c.Vars, lentAgain)
			for _, x := range nll.Clashes(m, f) {
				must(t, "a function without lent variables has no clash with a variable as its holder", lent || x.Holder == -1)
			}
			must(t, "a function whose result is not lent is not short", lentAgain(c.Ret) || len(nll.Short(m, f)) == 0 || moves.Check(m).Stage == 22)
		}
	}
}
