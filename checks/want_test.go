package checks

import (
	"fmt"
	"math"
	"slices"
	"strings"
	"testing"

	"usufruct/api"
	"usufruct/cnf"
	"usufruct/solve"
	"usufruct/want"
)

// wantsAgain: clauses as the chapter's table has them, of literals as words: o or m, and the function and the variable, a - ahead.
type wantsAgain struct {
	number  map[string]int
	names   [][2]int
	clauses [][]int
	whys    [][2]int
}

func (w *wantsAgain) put(why [2]int, clause string) {
	c := []int{}
	for _, word := range strings.Fields(clause) {
		n := w.number[strings.TrimPrefix(word, "-")]
		if n == 0 {
			panic("no literal " + word)
		}
		if word[0] == '-' {
			n = -n
		}
		c = append(c, n)
	}
	w.clauses = append(w.clauses, c)
	w.whys = append(w.whys, why)
}

func wanted(m api.Module) *wantsAgain {
	w := &wantsAgain{number: map[string]int{}}
	for f, c := range m.Funcs {
		add := func(v int, x api.Var) {
			if x.T.Ptr {
				n := 2*len(w.names) + 1
				w.number[fmt.Sprintf("o%d.%d", f, v)], w.number[fmt.Sprintf("m%d.%d", f, v)] = n, n+1
				w.names = append(w.names, [2]int{f, v})
			}
		}
		for v, x := range c.Vars {
			add(v, x)
		}
		add(-1, c.Ret)
	}
	for f, c := range m.Funcs {
		for _, n := range w.names {
			if n[0] == f {
				w.put([2]int{f, -1}, fmt.Sprintf("-o%d.%d -m%d.%d", f, n[1], f, n[1]))
			}
		}
		for at, i := range c.Ins {
			for _, line := range wantedBy(m, f, at, i) {
				w.put([2]int{f, at}, line)
			}
		}
	}
	return w
}

// wantedBy: the clauses of an instruction, as words.
func wantedBy(m api.Module, f, at int, i api.Instr) (l []string) {
	c := m.Funcs[f]
	asked := func(v int) bool { return askedAgain(c, at, v) }
	// Each rule is written with D, A, B for the instruction's variables, p for a parameter, a for an argument, r for a result.
	put := func(rule string, a, p int) {
		s := rule
		for word, to := range map[string]string{"(D)": fmt.Sprintf("%d.%d", f, i.D), "(A)": fmt.Sprintf("%d.%d", f, i.A), "(B)": fmt.Sprintf("%d.%d", f, i.B),
			"(a)": fmt.Sprintf("%d.%d", f, a), "(p)": fmt.Sprintf("%d.%d", i.F, p), "(R)": fmt.Sprintf("%d.-1", i.F), "(r)": fmt.Sprintf("%d.-1", f)} {
			s = strings.ReplaceAll(s, word, to)
		}
		l = append(l, s)
	}
	switch i.Op {
	case api.New:
		put("o(D)", 0, 0)
	case api.Free:
		put("o(A)", 0, 0)
	case api.Give:
		put("-o(D) o(A)", 0, 0)
		if asked(i.A) && i.A != i.D {
			put("-o(D)", 0, 0)
		}
		put("-m(D) o(A) m(A)", 0, 0)
	case api.Take:
		put("-o(D) o(A) m(A)", 0, 0)
		put("-m(D) o(A) m(A)", 0, 0)
	case api.Store:
		put("o(A) m(A)", 0, 0)
	case api.Set:
		put("o(B)", 0, 0)
		put("o(A) m(A)", 0, 0)
		if asked(i.B) {
			put("-o(B)", 0, 0)
		}
	case api.Call:
		for k, a := range i.Args {
			if !c.Vars[a].T.Ptr {
				continue
			}
			put("-o(p) o(a)", a, k)
			again := false
			for n, b := range i.Args {
				again = again || n != k && b == a
			}
			if asked(a) && a != i.D || again {
				put("-o(p)", a, k)
			}
			put("-m(p) o(a) m(a)", a, k)
		}
		if c.Vars[i.D].T.Ptr {
			put("-o(D) o(R)", 0, 0)
			put("o(D) -o(R)", 0, 0)
			put("-m(D) m(R)", 0, 0)
			put("m(D) -m(R)", 0, 0)
		}
	case api.Ret:
		if c.Ret.T.Ptr {
			put("-o(r) o(A)", 0, 0)
			put("o(r) -o(A)", 0, 0)
			put("-m(r) m(A)", 0, 0)
		}
	}
	return l
}

func TestP1701Of(t *testing.T) {
	t.Parallel()
	w, f := want.Of(api.Module{})
	is(t, "what is not right", f, api.NoMain)
	must(t, "nothing", w == nil)
	m := lowered("struct S { int v; S * n; }; S * f(int a, S * s) { return s; } int main() { S * a = new S; free(a); return 0; }")
	w, f = want.Of(m)
	is(t, "fault", f, api.OK)
	is(t, "Own", fmt.Sprint(w.Own(0, 0), w.Own(0, 1), w.Own(0, want.Result), w.Own(1, 0), w.Own(1, 1), w.Own(1, want.Result)), "0 1 3 5 0 0")
	is(t, "Mut", fmt.Sprint(w.Mut(0, 0), w.Mut(0, 1), w.Mut(0, want.Result), w.Mut(1, 0), w.Mut(1, 1), w.Mut(1, want.Result)), "0 2 4 6 0 0")
	equal(t, "Formula", w.Formula(), cnf.Formula{N: 6, L: [][]int{{-1, -2}, {-3, -4}, {-3, 1}, {3, -1}, {-4, 2}, {-5, -6}, {5}, {5}}})
	w.Formula().L[0][0] = 9
	is(t, "Formula is new", w.Formula().L[0][0], -1)
	for model := range solve.Models(w.Formula()) {
		must(t, "the example: own of a is true in each model", model[4])
	}
	is(t, "Result", want.Result, -1)
}

func TestP1701None(t *testing.T) {
	t.Parallel()
	var none *want.Wants
	equal(t, "Formula of nil", none.Formula(), cnf.Formula{})
	for range none.Pointers() {
		t.Error("a pointer of nil")
	}
	some, _ := want.Of(lowered("struct S { S * n; }; S * f(S * a) { return a; } int main() { return 0; }"))
	for _, n := range []int{-2, 2, 64, math.MinInt, math.MaxInt} {
		f, at, is1 := none.Why(n)
		is(t, "of nil", fmt.Sprint(none.Own(0, n), none.Mut(n, 0), none.Own(0, 0), f, at, is1), "0 0 0 0 0 false")
		is(t, "of what is no pointer", fmt.Sprint(some.Own(n, 0), some.Mut(n, 0), some.Own(0, n), some.Mut(0, n), some.Own(n, -1), some.Mut(1, -1)), "0 0 0 0 0 0")
	}
	for _, k := range []int{-1, 5, math.MinInt, math.MaxInt} {
		f, at, is1 := some.Why(k)
		is(t, "of no clause", fmt.Sprint(f, at, is1), "0 0 false")
	}
	f, at, is1 := some.Why(4)
	is(t, "of the last clause", fmt.Sprint(f, at, is1), "0 0 true")
}

func TestP1702Chance(t *testing.T) {
	t.Parallel()
	ops := map[int]int{}
	for _, m := range someModules(500) {
		w, f := want.Of(m)
		is(t, "fault", f, api.OK)
		v := wanted(m)
		var pointers [][2]int
		for f, x := range w.Pointers() {
			pointers = append(pointers, [2]int{f, x})
		}
		equal(t, "Pointers", pointers, v.names)
		for f, x := range w.Pointers() {
			is(t, "Pointers, as far as they are asked", [2]int{f, x}, v.names[0])
			break
		}
		for k, n := range v.names {
			is(t, "numbers", fmt.Sprint(w.Own(n[0], n[1]), w.Mut(n[0], n[1])), fmt.Sprint(2*k+1, 2*k+2))
		}
		for f, c := range m.Funcs {
			for x := range c.Vars {
				if !slices.Contains(v.names, [2]int{f, x}) {
					is(t, "a number", fmt.Sprint(w.Own(f, x), w.Mut(f, x)), "0 0")
				}
			}
			for _, i := range c.Ins {
				ops[i.Op]++
			}
		}
		equal(t, "Formula", w.Formula(), cnf.Formula{N: 2 * len(v.names), L: v.clauses})
		for k, why := range v.whys {
			f, at, is1 := w.Why(k)
			is(t, "Why", fmt.Sprint(f, at, is1), fmt.Sprint(why[0], why[1], true))
		}
		_, _, is1 := w.Why(len(v.whys))
		must(t, "no more clauses", !is1)
		must(t, "the formula is right", cnf.Right(w.Formula()))
	}
	for _, op := range []int{api.New, api.Free, api.Give, api.Take, api.Store, api.Set, api.Call, api.Ret} {
		must(t, fmt.Sprint("some of op ", op), ops[op] > 50)
	}
}

func TestP1702Calls(t *testing.T) {
	t.Parallel()
	// An argument twice; an argument that is what the call writes; one that is asked behind it.
	m := lowered("struct S { S * n; }; S * f(S * a, S * b) { return a; } int main() { S * x = null; S * y = null; x = f(x, y); f(x, x); f(y, null); put(y == null); y = y; x = y; x->n = y; y->n = x; return x == null; }")
	w, _ := want.Of(m)
	v := wanted(m)
	equal(t, "Formula", w.Formula().L, v.clauses)
}

// harmless: a module in the place of whose News, Frees, Sets and Calls nothing much stands.
func harmless(m api.Module) api.Module {
	for f, c := range m.Funcs {
		l := slices.Clone(c.Ins)
		for at, i := range l {
			switch {
			case i.Op == api.New, i.Op == api.Call && c.Vars[i.D].T.Ptr:
				l[at] = api.Instr{Op: api.Null, D: i.D}
			case i.Op == api.Call:
				l[at] = api.Instr{Op: api.Num, D: i.D}
			case i.Op == api.Free, i.Op == api.Set:
				l[at] = api.Instr{Op: api.Jump, To: at + 1}
			}
		}
		m.Funcs[f].Ins = l
	}
	return m
}

func TestP1703Laws(t *testing.T) {
	t.Parallel()
	for _, m := range someModules(400) {
		w, fault := want.Of(harmless(m))
		is(t, "fault", fault, api.OK)
		f := w.Formula()
		must(t, "the formula is right", cnf.Right(f))
		for n := 1; n <= f.N; n += 2 {
			f.L = append(f.L, []int{-n})
		}
		_, is1 := solve.Solve(f)
		must(t, "a model without any own", is1)
	}
}
