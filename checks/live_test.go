package checks

import (
	"fmt"
	"math"
	"slices"
	"testing"

	"usufruct/api"
	"usufruct/ir"
	"usufruct/live"
)

// askedAgain: whether some way from behind an instruction comes to one that reads a variable, ahead of any that writes it.
func askedAgain(c api.Code, at, v int) bool {
	seen := map[int]bool{}
	var way func(at int) bool
	way = func(at int) bool {
		if seen[at] {
			return false
		}
		seen[at] = true
		if readsAgain(c.Ins[at], v) {
			return true
		}
		if d, is := writesAgain(c.Ins[at]); is && d == v {
			return false
		}
		return slices.ContainsFunc(nextAgain(c, at), way)
	}
	return slices.ContainsFunc(nextAgain(c, at), way)
}

func readsAgain(i api.Instr, v int) bool {
	switch i.Op {
	case api.Copy, api.Put, api.Load, api.Give, api.Take, api.Free, api.IsNull, api.Branch, api.Ret:
		return i.A == v
	case api.Bin, api.Store, api.Set:
		return i.A == v || i.B == v
	case api.Call:
		return slices.Contains(i.Args, v)
	}
	return false
}

func writesAgain(i api.Instr) (int, bool) {
	switch i.Op {
	case api.Num, api.Null, api.Copy, api.Bin, api.Get, api.Load, api.Give, api.Take, api.New, api.IsNull, api.Call:
		return i.D, true
	}
	return 0, false
}

func TestP1001Example(t *testing.T) {
	t.Parallel()
	c := api.Code{Vars: make([]api.Var, 3), Ins: []api.Instr{{Op: api.Num, D: 0}, {Op: api.Num, D: 1}, {Op: api.Bin, D: 2, A: 0, B: 1, Sign: "+"}, {Op: api.Ret, A: 2}}}
	table := live.Of(c)
	is(t, "behind the second one", slices.Collect(table.Vars(1)), "[0 1]")
	is(t, "behind each", fmt.Sprint(slices.Collect(table.Vars(0)), slices.Collect(table.Vars(2)), slices.Collect(table.Vars(3))), "[0] [2] []")
	is(t, "Ahead", fmt.Sprint(table.Ahead(0, 0), table.Ahead(2, 0), table.Ahead(3, 2), table.Ahead(2, 2), table.Ahead(1, 1)), "false true true false false")
	is(t, "Idle, Most, Last", fmt.Sprint(table.Idle(), table.Most(), table.Last(0), table.Last(2)), "[] 2 [2] [3]")
}

func TestP1001None(t *testing.T) {
	t.Parallel()
	var none *live.Table
	some := live.Of(api.Code{Vars: make([]api.Var, 1), Ins: []api.Instr{{Op: api.Ret}}})
	for _, n := range []int{-1, 1, 64, math.MinInt, math.MaxInt} {
		is(t, "of nil", fmt.Sprint(none.Ahead(n, n), none.Behind(n, n), slices.Collect(none.Vars(n)), none.Last(n)), "false false [] []")
		is(t, "of no instruction", fmt.Sprint(some.Ahead(n, 0), some.Behind(n, 0), slices.Collect(some.Vars(n))), "false false []")
		is(t, "of no variable", fmt.Sprint(some.Ahead(0, n), some.Behind(0, n), some.Last(n)), "false false []")
	}
	is(t, "of nil", fmt.Sprint(none.Ahead(0, 0), none.Behind(0, 0), slices.Collect(none.Vars(0)), none.Idle(), none.Most(), none.Last(0)), "false false [] [] 0 []")
	empty := live.Of(api.Code{})
	is(t, "of nothing", fmt.Sprint(empty.Ahead(0, 0), slices.Collect(empty.Vars(0)), empty.Idle(), empty.Most(), empty.Last(0)), "false [] [] 0 []")
}

func TestP1001Chance(t *testing.T) {
	t.Parallel()
	for _, c := range someCodes(800) {
		if len(c.Ins) > 60 {
			continue
		}
		table := live.Of(c)
		most := 0
		var idle []int
		last := make([][]int, len(c.Vars))
		for at, i := range c.Ins {
			var behind []int
			for v := range c.Vars {
				asked := askedAgain(c, at, v)
				if asked {
					behind = append(behind, v)
				}
				d, writes := writesAgain(i)
				ahead := readsAgain(i, v) || asked && !(writes && d == v)
				if table.Behind(at, v) != asked || table.Ahead(at, v) != ahead {
					t.Error("Behind, Ahead", at, v, c.Ins)
				}
				if writes && d == v && !asked {
					idle = append(idle, at)
				}
				if readsAgain(i, v) && !asked {
					last[v] = append(last[v], at)
				}
			}
			equal(t, "Vars", slices.Collect(table.Vars(at)), behind)
			for v := range table.Vars(at) {
				is(t, "Vars, as far as it is asked", v, behind[0])
				break
			}
			most = max(most, len(behind))
		}
		is(t, "Most", table.Most(), most)
		equal(t, "Idle", table.Idle(), idle)
		for v := range c.Vars {
			equal(t, "Last", table.Last(v), last[v])
		}
	}
}

func TestP1002Wide(t *testing.T) {
	t.Parallel()
	// Variables of more than one word.
	c := api.Code{Vars: make([]api.Var, 300)}
	for v := range 300 {
		c.Ins = append(c.Ins, api.Instr{Op: api.Num, D: v})
	}
	for v := range 300 {
		c.Ins = append(c.Ins, api.Instr{Op: api.Put, A: v})
	}
	c.Ins = append(c.Ins, api.Instr{Op: api.Num, D: 299}, api.Instr{Op: api.Num, D: 64}, api.Instr{Op: api.Jump, To: 600})
	table := live.Of(c)
	is(t, "Most", table.Most(), 300)
	is(t, "Idle", table.Idle(), "[600 601]")
	for v := range 300 {
		is(t, "Last", table.Last(v), fmt.Sprint([]int{300 + v}))
		is(t, "Behind", fmt.Sprint(table.Behind(v, v), table.Ahead(v, v), table.Behind(300+v, v)), "true false false")
	}
	is(t, "Vars", len(slices.Collect(table.Vars(400))), 199)
}

func TestP1003Laws(t *testing.T) {
	t.Parallel()
	for _, c := range someCodes(300) {
		table := live.Of(c)
		for at, i := range c.Ins {
			for v := range c.Vars {
				some := false
				for _, n := range ir.Next(i, at) {
					some = some || table.Ahead(n, v)
				}
				is(t, "asked behind, if asked ahead of what comes", table.Behind(at, v), some)
			}
		}
	}
}
