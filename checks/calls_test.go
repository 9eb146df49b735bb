package checks

import (
	"fmt"
	"math"
	"math/rand/v2"
	"slices"
	"testing"

	"usufruct/api"
	"usufruct/calls"
)

// calling: a module whose functions call these, instruction by instruction; others stand between.
func calling(l ...[]int) api.Module {
	var m api.Module
	for f, to := range l {
		c := api.Code{Name: fmt.Sprint("f", f)}
		for _, h := range to {
			c.Ins = append(c.Ins, api.Instr{Op: api.Num, F: 0}, api.Instr{Op: api.Call, F: h})
		}
		m.Funcs = append(m.Funcs, c)
	}
	return m
}

func chanceCalls(r *rand.Rand) [][]int {
	n := r.IntN(9)
	l := make([][]int, n)
	for f := range l {
		for range r.IntN(4) * r.IntN(2) {
			l[f] = append(l[f], r.IntN(n))
		}
		if r.IntN(10) == 0 {
			l[f] = append(l[f], pick(r, []int{-1, n, math.MaxInt, math.MinInt}))
		}
	}
	return l
}

func TestP1101Example(t *testing.T) {
	t.Parallel()
	g := calls.Of(calling([]int{0}, []int{0}))
	is(t, "groups", g.Groups(), "[[0] [1]]")
	g = calls.Of(calling([]int{1, 1, 0}, []int{2, 1, 2}, nil, []int{2, -1, 9, 2}))
	is(t, "Callees", fmt.Sprint(g.Callees(0), g.Callees(1), g.Callees(2), g.Callees(3)), "[0 1] [1 2] [] [2]")
	is(t, "Callers", fmt.Sprint(g.Callers(0), g.Callers(1), g.Callers(2), g.Callers(3)), "[0] [0 1] [1 3] []")
	is(t, "Sites", fmt.Sprint(g.Sites(0), g.Sites(1), g.Sites(2), g.Sites(3)), "[[0 5]] [[0 1] [0 3] [1 3]] [[1 1] [1 5] [3 1] [3 7]] []")
	g.Callees(0)[0], g.Callers(1)[0], g.Sites(1)[0], g.Groups()[0][0] = 7, 7, [2]int{7, 7}, 7
	is(t, "what is handed out is new", fmt.Sprint(g.Callees(0), g.Callers(1), g.Sites(1), g.Groups()), "[0 1] [0 1] [[0 1] [0 3] [1 3]] [[2] [1] [0] [3]]")
}

func TestP1102Groups(t *testing.T) {
	t.Parallel()
	g := calls.Of(calling([]int{1}, []int{2, 3}, []int{0}, nil, []int{5}, []int{4}, []int{6}))
	is(t, "groups", g.Groups(), "[[3] [0 1 2] [4 5] [6]]")
	is(t, "Up", slices.Collect(g.Up()), "[3 0 1 2 4 5 6]")
	is(t, "Group", fmt.Sprint(g.Group(0), g.Group(2), g.Group(3), g.Group(5), g.Group(6)), "1 1 0 2 3")
	is(t, "Recursive", fmt.Sprint(g.Recursive(0), g.Recursive(3), g.Recursive(5), g.Recursive(6)), "true false true true")
	is(t, "Reaches", fmt.Sprint(g.Reaches(0, 0), g.Reaches(0, 3), g.Reaches(3, 3), g.Reaches(3, 0), g.Reaches(2, 1), g.Reaches(4, 6)), "true true false false true false")
	for f := range g.Up() {
		is(t, "Up, as far as it is asked", f, 3)
		break
	}
	// The least first member goes first, of those that may.
	g = calls.Of(calling([]int{4}, []int{3}, nil, nil, []int{1}))
	is(t, "order", g.Groups(), "[[2] [3] [1] [4] [0]]")
}

func TestP1102None(t *testing.T) {
	t.Parallel()
	var none *calls.Graph
	some := calls.Of(calling([]int{0}))
	empty := calls.Of(api.Module{})
	for _, n := range []int{-1, 1, 64, math.MinInt, math.MaxInt} {
		for _, g := range []*calls.Graph{none, some, empty} {
			is(t, "of no function", fmt.Sprint(g.Callees(n), g.Callers(n), g.Sites(n), g.Reaches(n, 0), g.Reaches(0, n), g.Group(n), g.Recursive(n)), "[] [] [] false false -1 false")
		}
	}
	for _, g := range []*calls.Graph{none, empty} {
		is(t, "of nothing", fmt.Sprint(g.Groups(), slices.Collect(g.Up()), g.Group(0), g.Recursive(0), g.Callees(0)), "[] [] -1 false []")
	}
}

func TestP1102Chance(t *testing.T) {
	t.Parallel()
	for seed := range uint64(1500) {
		l := chanceCalls(dice(seed))
		n := len(l)
		g := calls.Of(calling(l...))
		reach := make([][]bool, n)
		for f := range l {
			reach[f] = make([]bool, n)
			for _, h := range l[f] {
				if h >= 0 && h < n {
					reach[f][h] = true
				}
			}
		}
		for k := range n {
			for f := range n {
				for h := range n {
					reach[f][h] = reach[f][h] || reach[f][k] && reach[k][h]
				}
			}
		}
		left := map[int]bool{}
		for f := range n {
			left[f] = true
			is(t, "Recursive", g.Recursive(f), reach[f][f])
			var callees, callers []int
			var sites [][2]int
			for h := range n {
				is(t, "Reaches", g.Reaches(f, h), reach[f][h])
				if slices.Contains(l[f], h) {
					callees = append(callees, h)
				}
				if slices.Contains(l[h], f) {
					callers = append(callers, h)
				}
				for k, x := range l[h] {
					if x == f {
						sites = append(sites, [2]int{h, 2*k + 1})
					}
				}
			}
			equal(t, "Callees", g.Callees(f), callees)
			equal(t, "Callers", g.Callers(f), callers)
			equal(t, "Sites", g.Sites(f), sites)
		}
		var groups [][]int
		for len(left) > 0 {
			groups = append(groups, nextGroup(l, reach, left))
		}
		equal(t, fmt.Sprint("Groups ", l), g.Groups(), groups)
		equal(t, "Up", slices.Collect(g.Up()), slices.Concat(groups...))
		for k, members := range groups {
			for _, f := range members {
				is(t, "Group", g.Group(f), k)
				for _, h := range g.Callees(f) {
					must(t, "none of a group behind its own is called", g.Group(h) <= k)
				}
			}
		}
	}
}

// nextGroup: the one with the least first member of those that call none that is left but their own.
func nextGroup(l [][]int, reach [][]bool, left map[int]bool) []int {
	for f := range l {
		if !left[f] {
			continue
		}
		members := []int{}
		for h := range l {
			if h == f || reach[f][h] && reach[h][f] {
				members = append(members, h)
			}
		}
		ready := true
		for _, x := range members {
			for _, h := range l[x] {
				ready = ready && (!left[h] || slices.Contains(members, h))
			}
		}
		if ready {
			for _, x := range members {
				delete(left, x)
			}
			return members
		}
	}
	panic("no group")
}
