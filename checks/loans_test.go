package checks

import (
	"fmt"
	"math"
	"math/rand/v2"
	"slices"
	"testing"

	"usufruct/api"
	"usufruct/loans"
)

// loansAgain: all loans of a function, by their numbers.
func loansAgain(c api.Code) []loans.Loan {
	l := []loans.Loan{}
	for p, v := range c.Vars[:c.Params] {
		if lentAgain(v) {
			l = append(l, loans.Loan{At: -1, Arg: p, Root: -1, Kind: v.Class})
		}
	}
	for at, i := range c.Ins {
		lend := func(arg, v, mode int, but bool) {
			class := c.Vars[v].Class
			if (mode == 2 || mode == 3) && (class == 1 || class == 2 && !but) {
				l = append(l, loans.Loan{At: at, Arg: arg, Root: v, Kind: mode})
			}
		}
		switch i.Op {
		case api.Give, api.Take:
			lend(0, i.A, i.Mode[0], i.A == i.D)
		case api.Call:
			for k, a := range i.Args {
				lend(k, a, i.Mode[k], false)
			}
		}
	}
	return l
}

// holding: what each variable holds.
type holding map[int]map[int]bool

func (h holding) copy() holding {
	n := holding{}
	for v, s := range h {
		n[v] = map[int]bool{}
		for x := range s {
			n[v][x] = true
		}
	}
	return n
}

func sorted(s map[int]bool) []int {
	l := []int{}
	for x := range s {
		l = append(l, x)
	}
	slices.Sort(l)
	return l
}

// usedAgain: what a use of a variable holds, made at an instruction.
func usedAgain(c api.Code, all []loans.Loan, h holding, at, arg, v int) map[int]bool {
	s := map[int]bool{}
	if lentAgain(c.Vars[v]) {
		for x := range h[v] {
			s[x] = true
		}
	}
	for n, x := range all {
		if x.At == at && x.Arg == arg {
			s[n] = true
		}
	}
	return s
}

// heldAgain: what is held ahead of each instruction; nil where it is not reached.
func heldAgain(m api.Module, c api.Code) []holding {
	all := loansAgain(c)
	l := make([]holding, len(c.Ins))
	l[0] = holding{}
	for n, x := range all {
		if x.At == -1 {
			l[0][x.Arg] = map[int]bool{n: true}
		}
	}
	todo := []int{0}
	for len(todo) > 0 {
		at := todo[0]
		todo = todo[1:]
		i := c.Ins[at]
		h := l[at].copy()
		if d, is := writesAgain(i); is {
			now := map[int]bool{}
			put := func(arg, v, mode int) {
				if mode == 2 || mode == 3 {
					for x := range usedAgain(c, all, l[at], at, arg, v) {
						now[x] = true
					}
				}
			}
			if lentAgain(c.Vars[d]) {
				switch i.Op {
				case api.Give, api.Take:
					put(0, i.A, i.Mode[0])
				case api.Call:
					for _, p := range m.Funcs[i.F].From {
						put(p, i.Args[p], i.Mode[p])
					}
				}
			}
			h[d] = now
			for _, s := range h {
				for x := range s {
					if all[x].Root == d {
						delete(s, x)
					}
				}
			}
		}
		for _, n := range nextAgain(c, at) {
			grown := l[n] == nil
			if grown {
				l[n] = holding{}
			}
			for v, s := range h {
				for x := range s {
					if !l[n][v][x] {
						if l[n][v] == nil {
							l[n][v] = map[int]bool{}
						}
						l[n][v][x] = true
						grown = true
					}
				}
			}
			if grown {
				todo = append(todo, n)
			}
		}
	}
	return l
}

// lentModules: formed programs of all kinds: with classes that fit, and such as do not.
func lentModules(n int) []api.Module {
	var l []api.Module
	for seed, m := range someModules(n) {
		r := dice(uint64(seed))
		switch r.IntN(3) {
		case 0:
			m = formedChance(r, m)
		case 1:
			m = byClasses(mixed(r, m, false))
		default:
			m = byClasses(mostlyOwned(r, m))
		}
		l = append(l, shuffledVars(r, m))
	}
	for seed := range uint64(n) {
		l = append(l, borrowing(seed))
	}
	return l
}

// shuffledVars: a module in which some instructions use another variable of the type that they use.
func shuffledVars(r *rand.Rand, m api.Module) api.Module {
	m = cloned(m)
	for f := range m.Funcs {
		c := &m.Funcs[f]
		other := func(v *int) {
			var l []int
			for k, x := range c.Vars {
				if x == c.Vars[*v] {
					l = append(l, k)
				}
			}
			if r.IntN(3) == 0 {
				*v = pick(r, l)
			}
		}
		for at := range c.Ins {
			i := &c.Ins[at]
			switch i.Op {
			case api.Give, api.Take, api.Call:
				other(&i.D)
				if i.Op != api.Call {
					other(&i.A)
				}
				for k := range i.Args {
					other(&i.Args[k])
				}
			case api.Ret, api.Free:
				other(&i.A)
			}
			if r.IntN(60) == 0 {
				*i = api.Instr{Op: api.Jump, To: r.IntN(len(c.Ins))}
			}
		}
	}
	return m
}

func TestP2401Example(t *testing.T) {
	t.Parallel()
	own, share, mut := api.Var{T: to("S"), Class: 1}, api.Var{T: to("S"), Class: 3}, api.Var{T: to("S"), Class: 2}
	m := api.Module{Structs: []api.Struct{{Name: "S", Fields: []api.Field{{Name: "n", T: to("S")}}}}, Funcs: []api.Code{
		{Name: "f", Params: 2, Vars: []api.Var{share, mut}, Ret: share, From: []int{0}, Ins: []api.Instr{{Op: api.Ret, A: 0, Mode: []int{3}}}},
		{Name: "main", Vars: []api.Var{own, share, mut, {}}, Ins: []api.Instr{
			{Op: api.New, D: 0},
			{Op: api.Give, D: 1, A: 0, Mode: []int{3}},
			{Op: api.Give, D: 2, A: 0, Mode: []int{2}},
			{Op: api.Take, D: 2, A: 2, Mode: []int{2}},
			{Op: api.Call, D: 1, F: 0, Args: []int{1, 2}, Mode: []int{3, 2}},
			{Op: api.Give, D: 1, A: 2, Mode: []int{3}},
			{Op: api.New, D: 0},
			{Op: api.Num, D: 3}, {Op: api.Ret, A: 3},
		}},
	}}
	table := loans.Of(m, 1)
	is(t, "Loans", table.Loans(), "[{1 0 0 3} {2 0 0 2} {4 1 2 2} {5 0 2 3}]")
	is(t, "Held by 1", fmt.Sprint(table.Held(1, 1), table.Held(2, 1), table.Held(5, 1), table.Held(6, 1), table.Held(7, 1)), "[] [0] [0] [1 3] [3]")
	is(t, "Held by 2", fmt.Sprint(table.Held(2, 2), table.Held(3, 2), table.Held(4, 2), table.Held(7, 2)), "[] [1] [1] []")
	is(t, "Value", fmt.Sprint(table.Value(1, 0), table.Value(2, 0), table.Value(3, 0), table.Value(4, 0), table.Value(4, 1), table.Value(5, 0), table.Value(4, 2), table.Value(0, 0)), "[0] [1] [1] [0] [1 2] [1 3] [] []")
	is(t, "Made", fmt.Sprint(table.Made(1), table.Made(3), table.Made(4), table.Made(-1), loans.Of(m, 0).Made(-1)), "[0] [] [2] [] [0 1]")
	is(t, "Holders", fmt.Sprint(table.Holders(2, 0), table.Holders(6, 1), table.Holders(7, 1), table.Holders(8, 3)), "[1] [1 2] [] [1]")
	table.Loans()[0].At = 9
	is(t, "Loans are new", table.Loans()[0].At, 1)
	m.Funcs[0].From = nil
	is(t, "a call that gives nothing on", loans.Of(m, 1).Held(5, 1), "[]")
	f := loans.Of(m, 0)
	is(t, "parameters", fmt.Sprint(f.Loans(), f.Held(0, 0), f.Held(0, 1), f.Value(0, 0)), "[{-1 0 -1 3} {-1 1 -1 2}] [0] [1] [0]")
}

func TestP2401None(t *testing.T) {
	t.Parallel()
	var none *loans.Table
	m := everyBl()
	some := loans.Of(m, 1)
	is(t, "of nil", fmt.Sprint(none.Loans(), none.Held(0, 0), none.Value(0, 0), none.Made(0), none.Made(-1), none.Holders(0, 0)), "[] [] [] [] [] []")
	for _, n := range []int{-1, 2, 18, 64, math.MinInt, math.MaxInt} {
		is(t, "of nil", fmt.Sprint(none.Held(n, n), none.Value(n, n), none.Made(n), none.Holders(n, n)), "[] [] [] []")
		must(t, "of no function", loans.Of(m, n) == nil)
		if n != 2 {
			is(t, "of what is not there", fmt.Sprint(some.Held(n, 2), some.Held(11, n), some.Value(n, 0), some.Value(9, n), some.Made(n), some.Holders(n, 0), some.Holders(11, n)), "[] [] [] [] [] [] []")
		}
	}
	must(t, "of what is not formed", loans.Of(everyOp(), 0) == nil && loans.Of(api.Module{}, 0) == nil)
}

func TestP2401Chance(t *testing.T) {
	t.Parallel()
	held, unreached := 0, 0
	for _, m := range lentModules(900) {
		for f, c := range m.Funcs {
			if len(c.Vars) > 40 {
				continue
			}
			table := loans.Of(m, f)
			all := loansAgain(c)
			equal(t, "Loans", table.Loans(), all)
			h := heldAgain(m, c)
			for at := -1; at < len(c.Ins); at++ {
				made := []int{}
				for n, x := range all {
					if x.At == at {
						made = append(made, n)
					}
				}
				equal(t, "Made", table.Made(at), made)
			}
			for at, i := range c.Ins {
				for v := range c.Vars {
					want := sorted(h[at][v])
					held += len(want)
					equal(t, fmt.Sprint("Held ", f, at, v), table.Held(at, v), want)
				}
				for n := range all {
					var want []int
					for v := range c.Vars {
						if h[at][v][n] {
							want = append(want, v)
						}
					}
					equal(t, "Holders", table.Holders(at, n), want)
				}
				operands := i.Args
				if i.Op == api.Give || i.Op == api.Take || i.Op == api.Ret {
					operands = []int{i.A}
				}
				for arg := range 5 {
					want := []int{}
					if h[at] != nil && arg < len(i.Mode) && (i.Mode[arg] == 2 || i.Mode[arg] == 3) {
						want = sorted(usedAgain(c, all, h[at], at, arg, operands[arg]))
					}
					equal(t, fmt.Sprint("Value ", f, at, arg), table.Value(at, arg), want)
				}
				if h[at] == nil {
					unreached++
				}
			}
		}
	}
	must(t, fmt.Sprint("some is held, some is not reached ", held, unreached), held > 5000 && unreached > 100)
}

func TestP2402Laws(t *testing.T) {
	t.Parallel()
	for _, m := range lentModules(300) {
		for f, c := range m.Funcs {
			table := loans.Of(m, f)
			all := table.Loans()
			behind := behindAgain(c)
			for at, i := range c.Ins {
				d, writes := writesAgain(i)
				alone := writes && at+1 < len(c.Ins) && len(behind[at+1]) == 1
				for v, x := range c.Vars {
					must(t, "only lent variables hold loans", lentAgain(x) || len(table.Held(at, v)) == 0)
					if !alone {
						continue
					}
					for _, n := range table.Held(at+1, v) {
						must(t, "nobody holds a loan whose Root was just written", all[n].Root != d)
					}
				}
			}
		}
	}
}
