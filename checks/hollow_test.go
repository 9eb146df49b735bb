package checks

import (
	"cmp"
	"fmt"
	"math"
	"slices"
	"testing"

	"usufruct/api"
	"usufruct/bl"
	"usufruct/blrun"
	"usufruct/hollow"
	"usufruct/mcrun"
	"usufruct/nll"
)

// holesBehind: the holes behind an instruction, of those ahead of it.
func holesBehind(c api.Code, i api.Instr, ahead []hollow.Hole) []hollow.Hole {
	l := slices.Clone(ahead)
	drop := func(v, f int) {
		l = slices.DeleteFunc(l, func(h hollow.Hole) bool { return h.Var == v && (f < 0 || h.Field == f) })
	}
	own := len(i.Mode) == 1 && i.Mode[0] == 1
	d, writes := writesAgain(i)
	switch {
	case i.Op == api.Give && own && i.A == i.D:
		return l
	case i.Op == api.Give && own:
		drop(i.D, -1)
		for k := range l {
			if l[k].Var == i.A {
				l[k].Var = i.D
			}
		}
	case i.Op == api.Free:
		drop(i.A, -1)
	case i.Op == api.Set:
		drop(i.A, i.F)
	case writes:
		drop(d, -1)
		if i.Op == api.Take && own && i.A != i.D && !slices.Contains(l, hollow.Hole{Var: i.A, Field: i.F}) {
			l = append(l, hollow.Hole{Var: i.A, Field: i.F})
		}
	}
	return l
}

// holesAgain: the holes ahead of each instruction; nil where it is not reached.
func holesAgain(c api.Code) [][]hollow.Hole {
	l := make([][]hollow.Hole, len(c.Ins))
	l[0] = []hollow.Hole{}
	todo := []int{0}
	for len(todo) > 0 {
		at := todo[0]
		todo = todo[1:]
		behind := holesBehind(c, c.Ins[at], l[at])
		for _, n := range nextAgain(c, at) {
			grown := l[n] == nil
			if grown {
				l[n] = []hollow.Hole{}
			}
			for _, h := range behind {
				if !slices.Contains(l[n], h) {
					l[n] = append(l[n], h)
					grown = true
				}
			}
			if grown {
				todo = append(todo, n)
			}
		}
	}
	for at := range l {
		slices.SortFunc(l[at], func(a, b hollow.Hole) int {
			return cmp.Or(cmp.Compare(a.Var, b.Var), cmp.Compare(a.Field, b.Field))
		})
	}
	return l
}

// wrongAgain: the instructions that are wrong.
func wrongAgain(c api.Code) []int {
	l := []int{}
	ahead := holesAgain(c)
	for at, i := range c.Ins {
		if ahead[at] == nil {
			continue
		}
		has := func(v int) bool {
			return slices.ContainsFunc(ahead[at], func(h hollow.Hole) bool { return h.Var == v })
		}
		is := i.Op == api.Take && slices.Contains(ahead[at], hollow.Hole{Var: i.A, Field: i.F})
		operands := map[int][]int{api.Give: {i.A}, api.Ret: {i.A}, api.Call: i.Args}[i.Op]
		for k, v := range operands {
			if k < len(i.Mode) {
				is = is || (i.Mode[k] == 2 || i.Mode[k] == 3) && has(v)
				is = is || i.Mode[k] == 1 && i.Op != api.Give && has(v)
			}
		}
		is = is || i.Op == api.Set && has(i.B)
		if d, writes := writesAgain(i); writes {
			is = is || c.Vars[d].Class == 2 && has(d)
		}
		for _, h := range holesBehind(c, i, ahead[at]) {
			is = is || c.Vars[h.Var].Class == 2 && !askedAgain(c, at, h.Var)
		}
		if is {
			l = append(l, at)
		}
	}
	return l
}

func TestP2801Example(t *testing.T) {
	t.Parallel()
	const f = "fn f(own S) -> int {\n  var int\n  0 num x1 0\n  1 ret x1\n}\nfn g(share S) -> int {\n  var int\n  0 num x1 0\n  1 ret x1\n}\nfn h(mut S) -> int {\n  var int\n  var own S\n  0 take x2 own x0 n\n  1 num x1 0\n  2 ret x1\n}\nfn k(own S) -> own S {\n  var own S\n  0 take x1 own x0 n\n  1 ret own x0\n}\nfn l(own S) -> own S {\n  var own S\n  0 take x1 own x0 n\n  1 ret own x1\n}\n"
	for _, c := range []struct {
		what  string
		lines []string
		want  string
	}{
		{"taken, and looked at", []string{"new x1 S", "take x2 own x1 n", "take x5 share x1 n", "ret x0"}, "[2]"},
		{"taken twice", []string{"new x1 S", "take x2 own x1 n", "take x3 own x1 n", "ret x0"}, "[2]"},
		{"taken, and another one", []string{"new x1 S", "take x2 own x1 n", "take x3 own x1 m", "ret x0"}, "[]"},
		{"taken, and set", []string{"new x1 S", "take x2 own x1 n", "set x1 n x2", "take x3 own x1 n", "ret x0"}, "[]"},
		{"taken, and another one set", []string{"new x1 S", "take x2 own x1 n", "set x1 m x2", "take x3 own x1 n", "ret x0"}, "[3]"},
		{"taken, and made anew", []string{"new x1 S", "take x2 own x1 n", "new x1 S", "take x3 own x1 n", "ret x0"}, "[]"},
		{"taken, and freed", []string{"new x1 S", "take x2 own x1 n", "free x1", "ret x0"}, "[]"},
		{"taken into itself", []string{"new x1 S", "take x1 own x1 n", "take x1 own x1 n", "ret x0"}, "[]"},
		{"taken, and given", []string{"new x1 S", "take x2 own x1 n", "give x3 own x1", "take x5 share x3 n", "take x5 share x3 m", "ret x0"}, "[3]"},
		{"taken, given, and made anew", []string{"new x1 S", "take x2 own x1 n", "give x3 own x1", "new x1 S", "take x5 share x1 n", "ret x0"}, "[]"},
		{"given to what had one", []string{"new x1 S", "take x2 own x1 n", "new x3 S", "give x1 own x3", "take x5 share x1 n", "ret x0"}, "[]"},
		{"taken, and lent", []string{"new x1 S", "take x2 own x1 n", "give x5 share x1", "ret x0"}, "[2]"},
		{"taken, and lent to change", []string{"new x1 S", "take x2 own x1 n", "give x4 mut x1", "ret x0"}, "[2]"},
		{"taken to look at", []string{"new x1 S", "take x5 share x1 n", "take x5 share x1 n", "ret x0"}, "[]"},
		{"taken to change", []string{"new x1 S", "take x4 mut x1 n", "take x4 mut x1 n", "ret x0"}, "[]"},
		{"taken, and looked at for numbers", []string{"new x1 S", "take x2 own x1 n", "load x0 x1 v", "store x1 v x0", "isnull x0 == x1", "ret x0"}, "[]"},
		{"taken, and given to a call", []string{"new x1 S", "take x2 own x1 n", "call x0 f own x1", "ret x0"}, "[2]"},
		{"taken, and lent to a call", []string{"new x1 S", "take x2 own x1 n", "call x0 g share x1", "ret x0"}, "[2]"},
		{"taken, and set into another", []string{"new x1 S", "take x2 own x1 n", "set x2 m x1", "ret x0"}, "[2]"},
		{"taken of what is lent, and not set", []string{"new x1 S", "give x4 mut x1", "take x2 own x4 n", "ret x0"}, "[2 3]"},
		{"taken of what is lent, and set", []string{"new x1 S", "give x4 mut x1", "take x2 own x4 n", "set x4 n x2", "ret x0"}, "[]"},
		{"taken of what is lent, and lent anew", []string{"new x1 S", "give x4 mut x1", "take x2 own x4 n", "null x4", "set x4 n x2", "ret x0"}, "[2 3]"},
		{"taken of what is lent, and gone on", []string{"new x1 S", "give x4 mut x1", "take x2 own x4 n", "take x4 mut x4 m", "set x4 n x2", "ret x0"}, "[3]"},
		{"on one way", []string{"new x1 S", "branch x0 2 3", "take x2 own x1 n", "take x5 share x1 n", "ret x0"}, "[3]"},
		{"in a loop", []string{"new x1 S", "take x2 own x1 n", "branch x0 1 3", "ret x0"}, "[1]"},
		{"not reached", []string{"new x1 S", "jump 4", "take x2 own x1 n", "take x3 own x1 n", "ret x0"}, "[]"},
	} {
		m := blMain(f, c.lines...)
		is(t, c.what+" (the same again)", wrongAgain(m.Funcs[5]), c.want)
		is(t, c.what, hollow.Wrong(m, 5), c.want)
		is(t, "of h, k and l", fmt.Sprint(hollow.Wrong(m, 2), hollow.Wrong(m, 3), hollow.Wrong(m, 4), hollow.Wrong(m, 0)), "[0 1 2] [1] [] []")
		is(t, "Check", hollow.Check(m), diag(28, api.Hollow, 3, 1))
		m.Funcs[2].Ins = m.Funcs[2].Ins[1:]
		m.Funcs[3].Ins[1] = api.Instr{Op: api.Ret, A: 1, Mode: []int{1}}
		want := api.Diag{}
		if w := hollow.Wrong(m, 5); len(w) > 0 {
			want = diag(28, api.Hollow, 6, w[0]+1)
		}
		is(t, c.what, hollow.Check(m), want)
	}
	m := blMain("", "new x1 S", "take x2 own x1 m", "take x2 own x1 n", "give x3 own x1", "ret x0")
	is(t, "Holes", fmt.Sprint(hollow.Holes(m, 0, 0), hollow.Holes(m, 0, 1), hollow.Holes(m, 0, 2), hollow.Holes(m, 0, 3), hollow.Holes(m, 0, 4)), "[] [] [{1 2}] [{1 1} {1 2}] [{3 1} {3 2}]")
}

func TestP2801None(t *testing.T) {
	t.Parallel()
	m := everyBl()
	for _, n := range []int{-1, 2, 18, math.MinInt, math.MaxInt} {
		is(t, "what is not there", fmt.Sprint(hollow.Holes(m, n, 0), hollow.Holes(m, 0, n), hollow.Wrong(m, n)), "[] [] []")
	}
	is(t, "what is not formed", fmt.Sprint(hollow.Holes(everyOp(), 1, 1), hollow.Wrong(everyOp(), 1), hollow.Check(everyOp()), hollow.Check(api.Module{})), "[] [] {28 7 {0 0}} {28 9 {0 0}}")
}

func TestP2801Chance(t *testing.T) {
	t.Parallel()
	found := map[string]int{}
	for _, m := range lentModules(1500) {
		want := api.Diag{}
		for f, c := range m.Funcs {
			wrong := wrongAgain(c)
			equal(t, "Wrong", hollow.Wrong(m, f), wrong)
			if len(wrong) > 0 && want == (api.Diag{}) {
				want = diag(28, api.Hollow, f+1, wrong[0]+1)
			}
			found["wrong"] += len(wrong)
			for at, l := range holesAgain(c) {
				if at%5 == 0 || len(l) > 0 && at%2 == 0 {
					equal(t, "Holes", hollow.Holes(m, f, at), l)
				}
				found["holes"] += len(l)
			}
		}
		is(t, "Check", hollow.Check(m), want)
		found[fmt.Sprint(want.What)]++
	}
	must(t, fmt.Sprint("all kinds ", found), found["wrong"] > 500 && found["holes"] > 1000 && found["0"] > 100 && found["14"] > 100)
}

func TestP2802Laws(t *testing.T) {
	t.Parallel()
	// What is accepted, and has no hole that is read, does as a program of the first language what it does as one of the second.
	found := map[int]int{}
	for seed := range uint64(12000) {
		m := borrowing(seed)
		if hollow.Check(m) != (api.Diag{}) || !nll.Accept(m) {
			continue
		}
		for k := range uint64(3) {
			in, fails := tries(seed*7 + k)
			a, b := mcrun.Run(bl.Plain(m), in, fails, 400), blrun.Run(m, in, fails, 400)
			found[a.Kind]++
			if a.Kind != 2 {
				is(t, bl.Text(m), fmt.Sprint(b.Kind, b.Code, b.Out, b.Steps), fmt.Sprint(a.Kind, a.Code, a.Out, a.Steps))
			} else {
				must(t, "what is undefined is broken off, or goes on", b.Kind != 5)
			}
		}
	}
	must(t, fmt.Sprint("some run ", found), found[1] > 100 && found[4] > 100)
}
