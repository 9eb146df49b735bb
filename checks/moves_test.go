package checks

import (
	"fmt"
	"math"
	"testing"

	"usufruct/api"
	"usufruct/bltype"
	"usufruct/moves"
)

// waysAgain: of each instruction all sets of variables that are there ahead of it on some way; false: there are too many.
func waysAgain(c api.Code) ([]map[uint64]bool, bool) {
	l := make([]map[uint64]bool, len(c.Ins))
	for at := range l {
		l[at] = map[uint64]bool{}
	}
	type state struct {
		at   int
		mask uint64
	}
	todo := []state{{0, 1<<c.Params - 1}}
	l[0][todo[0].mask] = true
	for len(todo) > 0 {
		s := todo[len(todo)-1]
		todo = todo[:len(todo)-1]
		i := c.Ins[s.at]
		for _, u := range usesAgain(c, i) {
			if u.Kind == 3 {
				s.mask &^= 1 << u.Var
			}
		}
		if d, is := writesAgain(i); is {
			s.mask |= 1 << d
		}
		for _, n := range nextAgain(c, s.at) {
			if !l[n][s.mask] {
				l[n][s.mask] = true
				todo = append(todo, state{n, s.mask})
				if len(l[n]) > 2000 {
					return nil, false
				}
			}
		}
	}
	return l, true
}

// movedAgain: whether an instruction reads what is not there, or gives away what it reads twice.
func movedAgain(c api.Code, i api.Instr, masks map[uint64]bool) bool {
	for v := range c.Vars {
		for mask := range masks {
			if readsAgain(i, v) && mask>>v&1 == 0 {
				return true
			}
		}
	}
	reads := []int{}
	switch i.Op {
	case api.Set:
		reads = []int{i.A, i.B}
	case api.Call:
		reads = i.Args
	}
	for _, u := range usesAgain(c, i) {
		n := 0
		for _, r := range reads {
			n += btoi(r == u.Var)
		}
		if u.Kind == 3 && n > 1 && len(masks) > 0 {
			return true
		}
	}
	return false
}

func TestP2301Example(t *testing.T) {
	t.Parallel()
	own := api.Var{T: to("S"), Class: api.Own}
	m := api.Module{Structs: []api.Struct{{Name: "S", Fields: []api.Field{{Name: "n", T: to("S")}}}}, Funcs: []api.Code{{Name: "main", Vars: []api.Var{own, {}, own}, Ins: []api.Instr{
		{Op: api.New, D: 0}, {Op: api.Free, A: 0}, {Op: api.Free, A: 0}, {Op: api.Num, D: 1}, {Op: api.Ret, A: 1},
	}}}}
	is(t, "the example", moves.Check(m), diag(23, api.Moved, 1, 3))
	table := moves.Of(m, 0)
	is(t, "There", fmt.Sprint(table.There(0, 0), table.There(1, 0), table.There(2, 0), table.There(4, 1), table.There(3, 1)), "false true false true false")
	m.Funcs[0].Ins[2] = api.Instr{Op: api.New, D: 0}
	is(t, "made again", moves.Check(m), api.Diag{})
	m.Funcs[0].Ins = []api.Instr{{Op: api.Num, D: 1}, {Op: api.New, D: 0}, {Op: api.Branch, A: 1, To: 3, Else: 4}, {Op: api.Free, A: 0}, {Op: api.Ret, A: 1}}
	is(t, "gone on one way, but not asked", moves.Check(m), api.Diag{})
	table = moves.Of(m, 0)
	is(t, "on one way", fmt.Sprint(table.There(4, 0), table.Perhaps(4, 0), table.Gone(4), table.Gone(3), table.There(4, 1)), "false true [0] [] true")
	m.Funcs[0].Ins = append(m.Funcs[0].Ins[:4:4], api.Instr{Op: api.Free, A: 0}, api.Instr{Op: api.Ret, A: 1})
	is(t, "gone on one way", moves.Check(m), diag(23, api.Moved, 1, 5))
	m.Funcs[0].Ins = []api.Instr{{Op: api.New, D: 0}, {Op: api.Set, A: 0, B: 0}, {Op: api.Num, D: 1}, {Op: api.Ret, A: 1}}
	is(t, "given away, and changed", moves.Check(m), diag(23, api.Moved, 1, 2))
	m.Funcs[0].Ins = []api.Instr{{Op: api.New, D: 0}, {Op: api.Give, D: 0, A: 0, Mode: []int{1}}, {Op: api.Free, A: 0}, {Op: api.Num, D: 1}, {Op: api.Ret, A: 1}}
	is(t, "given to itself", moves.Check(m), api.Diag{})
	m.Funcs[0].Ins = []api.Instr{{Op: api.Jump, To: 2}, {Op: api.Free, A: 0}, {Op: api.Num, D: 1}, {Op: api.Ret, A: 1}}
	is(t, "not reached", moves.Check(m), api.Diag{})
	m.Funcs[0].Ins = []api.Instr{{Op: api.Num, D: 1}, {Op: api.New, D: 0}, {Op: api.Free, A: 0}, {Op: api.Branch, A: 1, To: 2, Else: 4}, {Op: api.Ret, A: 1}}
	is(t, "in a loop", moves.Check(m), diag(23, api.Moved, 1, 3))
	m.Funcs[0].Ins = []api.Instr{{Op: api.New, D: 0}, {Op: api.Num, D: 1}, {Op: api.Num, D: 1}, {Op: api.IsNull, D: 1, A: 0, Sign: "=="}, {Op: api.Branch, A: 1, To: 5, Else: 7}, {Op: api.Free, A: 0}, {Op: api.Jump, To: 4}, {Op: api.Branch, A: 1, To: 2, Else: 8}, {Op: api.Ret, A: 1}}
	is(t, "in a loop within a loop", moves.Check(m), diag(23, api.Moved, 1, 4))
	m.Funcs[0].Ins = []api.Instr{{Op: api.Num, D: 1}, {Op: api.New, D: 0}, {Op: api.Free, A: 0}, {Op: api.Branch, A: 1, To: 2, Else: 4}, {Op: api.Ret, A: 1}}
	m.Funcs[0].Vars[0].Class = api.Share
	is(t, "bltype first", moves.Check(m), diag(22, api.Mistyped, 1, 2))
	m.Funcs[0].Vars[0].Class = 0
	is(t, "not formed", moves.Check(m), diag(22, api.Mistyped, 0, 0))
	is(t, "not formed", moves.Of(m, 0) == nil, true)
}

func TestP2301None(t *testing.T) {
	t.Parallel()
	var none *moves.Table
	m := everyBl()
	some := moves.Of(m, 1)
	for _, n := range []int{-1, 2, 18, 64, math.MinInt, math.MaxInt} {
		is(t, "of nil", fmt.Sprint(none.There(n, n), none.Perhaps(n, n), none.Gone(n)), "false false []")
		must(t, "of no function", n == 1 || moves.Of(m, n) == nil)
		if n != 2 {
			is(t, "of what is not there", fmt.Sprint(some.There(n, 0), some.Perhaps(n, 0), some.Gone(n), some.There(0, n), some.Perhaps(0, n)), "false false [] false false")
		}
	}
	is(t, "of nil", fmt.Sprint(none.There(0, 0), none.Perhaps(0, 0), none.Gone(0)), "false false []")
}

func TestP2301Chance(t *testing.T) {
	t.Parallel()
	gone, wrong, right := 0, 0, 0
	for seed, m := range someModules(1200) {
		r := dice(uint64(seed))
		m = byClasses(mostlyOwned(r, m))
		if r.IntN(3) == 0 {
			m = formedChance(r, m)
		}
		want, whole := bltype.Check(m), true
		for f, c := range m.Funcs {
			ways, few := waysAgain(c)
			if len(c.Vars) > 64 || !few {
				whole = false
				continue
			}
			table := moves.Of(m, f)
			for at, i := range c.Ins {
				var lost []int
				for v := range c.Vars {
					all, some := len(ways[at]) > 0, false
					for mask := range ways[at] {
						all = all && mask>>v&1 == 1
						some = some || mask>>v&1 == 1
					}
					if table.There(at, v) != all || table.Perhaps(at, v) != some {
						t.Error("There, Perhaps", f, at, v)
					}
					if some && !all {
						lost = append(lost, v)
					}
				}
				gone += len(lost)
				equal(t, "Gone", table.Gone(at), lost)
				if want == (api.Diag{}) && movedAgain(c, i, ways[at]) {
					want = diag(23, api.Moved, f+1, at+1)
				}
			}
		}
		if whole {
			is(t, "Check", moves.Check(m), want)
			wrong += btoi(want.Stage == 23)
			right += btoi(want.Stage == 0)
		}
	}
	must(t, fmt.Sprint("all kinds ", gone, wrong, right), gone > 100 && wrong > 50 && right > 50)
}

func TestP2303Ways(t *testing.T) {
	t.Parallel()
	checked := 0
	for seed, m := range someModules(800) {
		r := dice(uint64(seed))
		m = byClasses(mostlyOwned(r, m))
		if moves.Check(m) != (api.Diag{}) {
			continue
		}
		checked++
		for _, c := range m.Funcs {
			for range 5 {
				there := map[int]bool{}
				for p := range c.Params {
					there[p] = true
				}
				at := 0
				for range 200 {
					i := c.Ins[at]
					for v := range c.Vars {
						must(t, "nothing is read that is gone", !readsAgain(i, v) || there[v])
					}
					for _, u := range usesAgain(c, i) {
						if u.Kind == 3 {
							must(t, "nothing is given away twice", there[u.Var])
							there[u.Var] = false
						}
					}
					if d, is := writesAgain(i); is {
						there[d] = true
					}
					next := nextAgain(c, at)
					if len(next) == 0 {
						break
					}
					at = pick(r, next)
				}
			}
		}
	}
	must(t, fmt.Sprint("some are checked ", checked), checked > 50)
}
