package checks

import (
	"fmt"
	"math"
	"math/rand/v2"
	"slices"
	"testing"

	"usufruct/api"
	"usufruct/flow"
	"usufruct/lower"
)

// anyCode: some function, whose instructions may lead to what is not there, and whose variables may be none.
func anyCode(r *rand.Rand, most int) api.Code {
	n := r.IntN(most + 1)
	c := api.Code{Name: "f", Vars: make([]api.Var, r.IntN(6))}
	place := func() int {
		if r.IntN(25) == 0 {
			return pick(r, []int{-1, n, n + 5, math.MaxInt, math.MinInt})
		}
		return r.IntN(n)
	}
	v := func() int {
		if r.IntN(25) == 0 {
			return pick(r, []int{-1, len(c.Vars), 70, math.MaxInt, math.MinInt})
		}
		return r.IntN(len(c.Vars) + 1)
	}
	for range n {
		i := api.Instr{D: v(), A: v(), B: v(), Op: 1 + r.IntN(15), To: place(), Else: place()}
		switch r.IntN(6) {
		case 0:
			i.Op = api.Jump
		case 1, 2:
			i.Op = api.Branch
		case 3:
			i.Op = pick(r, []int{api.Ret, api.Num, api.Copy, api.Copy, 0, 19})
		}
		for range r.IntN(3) {
			i.Args = append(i.Args, v())
		}
		c.Ins = append(c.Ins, i)
	}
	return c
}

// nextAgain: the instructions that may come behind one.
func nextAgain(c api.Code, at int) []int {
	i := c.Ins[at]
	var l []int
	switch i.Op {
	case api.Jump:
		l = []int{i.To}
	case api.Branch:
		l = []int{i.To, i.Else}
	case api.Ret:
	default:
		l = []int{at + 1}
	}
	var there []int
	for _, n := range l {
		if n >= 0 && n < len(c.Ins) && !slices.Contains(there, n) {
			there = append(there, n)
		}
	}
	return there
}

// walkAgain: what a walk meets, and what it leaves, in order.
func walkAgain(c api.Code, from int) (met, left []int) {
	seen := map[int]bool{}
	var go1 func(at int)
	go1 = func(at int) {
		seen[at] = true
		met = append(met, at)
		for _, n := range nextAgain(c, at) {
			if !seen[n] {
				go1(n)
			}
		}
		left = append(left, at)
	}
	if from >= 0 && from < len(c.Ins) {
		go1(from)
	}
	return met, left
}

func reachAgain(c api.Code) []bool {
	l := make([]bool, len(c.Ins))
	met, _ := walkAgain(c, 0)
	for _, at := range met {
		l[at] = true
	}
	return l
}

func behindAgain(c api.Code) [][]int {
	l := make([][]int, len(c.Ins))
	for at := range c.Ins {
		for _, n := range nextAgain(c, at) {
			l[n] = append(l[n], at)
		}
	}
	return l
}

// someCodes: functions of all kinds: small ones, greater ones, and lowered ones.
func someCodes(n int) []api.Code {
	var l []api.Code
	for seed := range uint64(n) {
		r := dice(seed)
		l = append(l, anyCode(r, pick(r, []int{3, 6, 12, 40})))
		if seed%8 == 0 {
			if m, d := lower.Lower(sanely(seed)); d == (api.Diag{}) {
				l = append(l, m.Funcs...)
			}
		}
	}
	return l
}

func TestP801Reach(t *testing.T) {
	t.Parallel()
	for _, c := range someCodes(2000) {
		equal(t, fmt.Sprint("Reach ", c.Ins), flow.Reach(c), reachAgain(c))
		equal(t, fmt.Sprint("Behind ", c.Ins), flow.Behind(c), behindAgain(c))
	}
	must(t, "nothing", len(flow.Reach(api.Code{})) == 0 && len(flow.Behind(api.Code{})) == 0)
	c := api.Code{Ins: []api.Instr{{Op: api.Branch, To: 2, Else: 2}, {Op: api.Jump, To: 2}, {Op: api.Jump, To: 0}}}
	is(t, "Behind", flow.Behind(c), "[[2] [] [0 1]]")
	is(t, "Reach", flow.Reach(c), "[true false true]")
	l := flow.Behind(c)
	l[2][0] = 9
	is(t, "Behind is new", flow.Behind(c), "[[2] [] [0 1]]")
}

func TestP802Order(t *testing.T) {
	t.Parallel()
	straight := api.Code{Ins: []api.Instr{{Op: api.Num}, {Op: api.Num}, {Op: api.Num}, {Op: api.Ret}}}
	is(t, "straight", flow.Order(straight), "[0 1 2 3]")
	diamond := api.Code{Ins: []api.Instr{{Op: api.Branch, To: 1, Else: 3}, {Op: api.Num}, {Op: api.Jump, To: 4}, {Op: api.Num}, {Op: api.Ret}}}
	is(t, "both ways", flow.Order(diamond), "[0 3 1 2 4]")
	is(t, "from 0", slices.Collect(flow.From(diamond, 0)), "[0 1 2 4 3]")
	is(t, "from 3", slices.Collect(flow.From(diamond, 3)), "[3 4]")
	must(t, "nothing", len(flow.Order(api.Code{})) == 0)
	for _, c := range someCodes(2000) {
		_, left := walkAgain(c, 0)
		slices.Reverse(left)
		equal(t, fmt.Sprint("Order ", c.Ins), flow.Order(c), left)
		for _, at := range []int{-1, math.MinInt, 0, 1, len(c.Ins) / 2, len(c.Ins) - 1, len(c.Ins), math.MaxInt} {
			met, _ := walkAgain(c, at)
			equal(t, fmt.Sprint("From ", at, c.Ins), slices.Collect(flow.From(c, at)), met)
			var some []int
			for x := range flow.From(c, at) {
				if some = append(some, x); len(some) == 2 {
					break
				}
			}
			equal(t, "From, as far as it is asked", some, met[:min(2, len(met))])
		}
	}
}

// loopsAgain, blocksAgain: as the chapter says, each looked for on its own.
func loopsAgain(c api.Code) []int {
	_, left := walkAgain(c, 0)
	slices.Reverse(left)
	var l []int
	for h := range c.Ins {
		for _, a := range left {
			if slices.Contains(nextAgain(c, a), h) && slices.Index(left, a) >= slices.Index(left, h) {
				l = append(l, h)
				break
			}
		}
	}
	return l
}

func blocksAgain(c api.Code) [][2]int {
	reach := reachAgain(c)
	starts := func(at int) bool {
		if at == 0 {
			return true
		}
		if op := c.Ins[at-1].Op; op == api.Jump || op == api.Branch || op == api.Ret {
			return true
		}
		for k, i := range c.Ins {
			if reach[k] && (i.Op == api.Jump && i.To == at || i.Op == api.Branch && (i.To == at || i.Else == at)) {
				return true
			}
		}
		return false
	}
	var l [][2]int
	for at := range c.Ins {
		if !reach[at] || !starts(at) {
			continue
		}
		end := at
		for end+1 < len(c.Ins) && reach[end+1] && !starts(end+1) {
			end++
		}
		l = append(l, [2]int{at, end})
	}
	return l
}

func TestP803Loops(t *testing.T) {
	t.Parallel()
	must(t, "nothing", len(flow.Loops(api.Code{})) == 0 && len(flow.Blocks(api.Code{})) == 0)
	straight := api.Code{Ins: []api.Instr{{Op: api.Num}, {Op: api.Num}, {Op: api.Ret}}}
	is(t, "straight", fmt.Sprint(flow.Loops(straight), flow.Blocks(straight)), "[] [[0 2]]")
	self := api.Code{Ins: []api.Instr{{Op: api.Num}, {Op: api.Jump, To: 1}}}
	is(t, "to itself", fmt.Sprint(flow.Loops(self), flow.Blocks(self)), "[1] [[0 0] [1 1]]")
	m := lowered("int main() { int i = 9; while (i) { if (i < 5) { i = i - 1; } else { i = i - 2; } } return 0; }")
	is(t, "a while", fmt.Sprint(flow.Loops(m.Funcs[0]), flow.Blocks(m.Funcs[0])), "[1] [[0 0] [1 1] [2 4] [5 7] [8 9] [10 10] [11 12]]")
	dead := api.Code{Ins: []api.Instr{{Op: api.Jump, To: 3}, {Op: api.Jump, To: 4}, {Op: api.Num}, {Op: api.Num}, {Op: api.Num}, {Op: api.Ret}}}
	is(t, "a jump that is not reached", fmt.Sprint(flow.Loops(dead), flow.Blocks(dead)), "[] [[0 0] [3 5]]")
	for _, c := range someCodes(2500) {
		equal(t, fmt.Sprint("Loops ", c.Ins), flow.Loops(c), loopsAgain(c))
		equal(t, fmt.Sprint("Blocks ", c.Ins), flow.Blocks(c), blocksAgain(c))
	}
}

func TestP804Forwards(t *testing.T) {
	t.Parallel()
	for _, c := range someCodes(1000) {
		order, loops := flow.Order(c), flow.Loops(c)
		for n, a := range order {
			for _, b := range nextAgain(c, a) {
				must(t, "an edge leads forwards, but to loops", slices.Index(order, b) > n || slices.Contains(loops, b))
			}
		}
	}
	long := api.Code{Ins: make([]api.Instr, 200000)}
	for k := range long.Ins {
		long.Ins[k] = api.Instr{Op: api.Branch, To: k + 1, Else: k / 2}
	}
	is(t, "a long function", len(flow.Order(long)), 200000)
	is(t, "loops of a long function", len(flow.Loops(long)), 100000)
}
