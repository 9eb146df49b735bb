package checks

import (
	"fmt"
	"math"
	"slices"
	"testing"

	"usufruct/api"
	"usufruct/dom"
)

// without: what is reached from 0 on ways that do not go through an instruction.
func without(c api.Code, out int) []bool {
	reached := make([]bool, len(c.Ins))
	var go1 func(at int)
	go1 = func(at int) {
		if at == out || reached[at] {
			return
		}
		reached[at] = true
		for _, n := range nextAgain(c, at) {
			go1(n)
		}
	}
	if len(c.Ins) > 0 {
		go1(0)
	}
	return reached
}

// dominators: of each instruction those that dominate it, rising.
func dominators(c api.Code) [][]int {
	all := without(c, -1)
	l := make([][]int, len(c.Ins))
	for a := range c.Ins {
		left := without(c, a)
		for b := range c.Ins {
			if all[a] && all[b] && !left[b] {
				l[b] = append(l[b], a)
			}
		}
	}
	return l
}

func TestP901Straight(t *testing.T) {
	t.Parallel()
	tree := dom.Of(api.Code{Ins: []api.Instr{{Op: api.Num}, {Op: api.Num}, {Op: api.Num}, {Op: api.Ret}, {Op: api.Ret}}})
	is(t, "Over", fmt.Sprint(tree.Over(0), tree.Over(1), tree.Over(2), tree.Over(3), tree.Over(4)), "-1 0 1 2 -1")
	is(t, "Path", fmt.Sprint(tree.Path(0), tree.Path(3), tree.Path(4)), "[0] [3 2 1 0] []")
	is(t, "Depth", fmt.Sprint(tree.Depth(0), tree.Depth(3), tree.Depth(4)), "1 4 0")
	is(t, "Dominates", fmt.Sprint(tree.Dominates(0, 3), tree.Dominates(3, 3), tree.Dominates(3, 2), tree.Dominates(0, 4), tree.Dominates(4, 4)), "true true false false false")
	is(t, "Under", fmt.Sprint(slices.Collect(tree.Under(0)), slices.Collect(tree.Under(3)), slices.Collect(tree.Under(4))), "[1] [] []")
}

func TestP901None(t *testing.T) {
	t.Parallel()
	var none *dom.Tree
	some := dom.Of(api.Code{Ins: []api.Instr{{Op: api.Jump}}})
	for _, at := range []int{-1, 0, 1, math.MinInt, math.MaxInt} {
		is(t, "of nil", fmt.Sprint(none.Over(at), none.Dominates(at, at), none.Path(at), slices.Collect(none.Under(at)), none.Depth(at), none.Natural(at)), "-1 false [] [] 0 []")
		if at != 0 {
			is(t, "of no instruction", fmt.Sprint(some.Over(at), some.Dominates(at, 0), some.Dominates(0, at), some.Path(at), slices.Collect(some.Under(at)), some.Depth(at), some.Natural(at)), "-1 false false [] [] 0 []")
		}
	}
	is(t, "a jump to itself", some.Natural(0), "[0]")
	empty := dom.Of(api.Code{})
	is(t, "of nothing", fmt.Sprint(empty.Over(0), empty.Dominates(0, 0), empty.Path(0), empty.Depth(0), empty.Natural(0)), "-1 false [] 0 []")
}

func TestP901Chance(t *testing.T) {
	t.Parallel()
	for _, c := range someCodes(800) {
		tree := dom.Of(c)
		doms := dominators(c)
		reach := reachAgain(c)
		overs := make([]int, len(c.Ins))
		for b := range c.Ins {
			over := -1
			for _, a := range doms[b] {
				if a != b && len(doms[a]) == len(doms[b])-1 {
					over = a
				}
			}
			overs[b] = over
			is(t, fmt.Sprint("Over ", b, c.Ins), tree.Over(b), over)
			is(t, "Depth", tree.Depth(b), len(doms[b]))
			path := tree.Path(b)
			sorted := slices.Sorted(slices.Values(path))
			equal(t, "Path has all that dominate", sorted, doms[b])
			for k := range path {
				want := -1
				if k+1 < len(path) {
					want = path[k+1]
				}
				is(t, "Path goes over", overAgain(doms, path[k]), want)
			}
			for a := range c.Ins {
				if tree.Dominates(a, b) != slices.Contains(doms[b], a) {
					t.Error("Dominates", a, b, c.Ins)
				}
			}
		}
		for a := range c.Ins {
			var under []int
			for b := range c.Ins {
				if reach[a] && overs[b] == a {
					under = append(under, b)
				}
			}
			equal(t, "Under", slices.Collect(tree.Under(a)), under)
			for x := range tree.Under(a) {
				is(t, "Under, as far as it is asked", x, under[0])
				break
			}
		}
	}
}

// overAgain: the nearest one of those that dominate an instruction, but itself.
func overAgain(doms [][]int, b int) int {
	for _, a := range doms[b] {
		if a != b && len(doms[a]) == len(doms[b])-1 {
			return a
		}
	}
	return -1
}

// naturalAgain: the loop of a head, of what is reached.
func naturalAgain(c api.Code, doms [][]int, head int) []int {
	ends := map[int]bool{}
	for u := range c.Ins {
		if slices.Contains(nextAgain(c, u), head) && slices.Contains(doms[u], head) {
			ends[u] = true
		}
	}
	if len(ends) == 0 {
		return nil
	}
	var l []int
	for x := range c.Ins {
		seen := map[int]bool{}
		var way func(at int) bool
		way = func(at int) bool {
			if at == head || seen[at] {
				return false
			}
			seen[at] = true
			return ends[at] || slices.ContainsFunc(nextAgain(c, at), way)
		}
		if x == head || way(x) {
			l = append(l, x)
		}
	}
	return l
}

func TestP902Natural(t *testing.T) {
	t.Parallel()
	m := lowered("int main() { int i = 9; while (i) { if (i < 5) { i = i - 1; continue; } while (i > 7) { i = i - 2; } } return 0; }")
	c := m.Funcs[0]
	tree := dom.Of(c)
	doms := dominators(c)
	loops := 0
	for head := range c.Ins {
		got := tree.Natural(head)
		equal(t, "Natural", got, naturalAgain(c, doms, head))
		if len(got) > 0 {
			loops++
		}
	}
	is(t, "loops", loops, 2)
	for _, c := range someCodes(800) {
		tree := dom.Of(c)
		doms := dominators(c)
		for head := range c.Ins {
			var got, want []int
			for _, x := range tree.Natural(head) {
				if len(doms[x]) > 0 {
					got = append(got, x)
				}
			}
			for _, x := range naturalAgain(c, doms, head) {
				if len(doms[x]) > 0 {
					want = append(want, x)
				}
			}
			equal(t, fmt.Sprint("Natural ", head, c.Ins), got, want)
		}
	}
}

func TestP903Laws(t *testing.T) {
	t.Parallel()
	for _, c := range someCodes(300) {
		tree := dom.Of(c)
		reach := without(c, -1)
		for a := range c.Ins {
			left := without(c, a)
			for b := range c.Ins {
				if reach[a] && reach[b] {
					is(t, "without what dominates it an instruction is not reached", left[b], !tree.Dominates(a, b))
				}
			}
		}
	}
}
