package checks

import (
	"fmt"
	"math"
	"slices"
	"strings"
	"testing"

	"usufruct/api"
	"usufruct/classes"
	"usufruct/cnf"
	"usufruct/ir"
	"usufruct/solve"
)

// cloned: a module that shares nothing with another one.
func cloned(m api.Module) api.Module {
	n := api.Module{Structs: slices.Clone(m.Structs), Funcs: slices.Clone(m.Funcs)}
	for k, s := range n.Structs {
		n.Structs[k].Fields = slices.Clone(s.Fields)
	}
	for k, c := range n.Funcs {
		n.Funcs[k].Vars, n.Funcs[k].From, n.Funcs[k].Ins = slices.Clone(c.Vars), slices.Clone(c.From), slices.Clone(c.Ins)
		for at, i := range n.Funcs[k].Ins {
			n.Funcs[k].Ins[at].Args, n.Funcs[k].Ins[at].Mode = slices.Clone(i.Args), slices.Clone(i.Mode)
		}
	}
	return n
}

// spoiled: changes all lists of a module, which nobody else may see.
func spoil(m api.Module) {
	for k := range m.Structs {
		for n := range m.Structs[k].Fields {
			m.Structs[k].Fields[n].Name = "spoiled"
		}
		m.Structs[k].Name = "spoiled"
	}
	for k := range m.Funcs {
		c := &m.Funcs[k]
		for v := range c.Vars {
			c.Vars[v].Class = 9
		}
		for n := range c.From {
			c.From[n] = 9
		}
		for at := range c.Ins {
			c.Ins[at].Op = 99
		}
		c.Name = "spoiled"
	}
}

// classed: a module with the classes of a model.
func classed(m api.Module, model []bool) api.Module {
	n := cloned(m)
	k := 0
	class := func(x *api.Var) {
		x.Class = 0
		if x.T.Ptr {
			x.Class = 3
			if model[k] {
				x.Class = 1
			} else if model[k+1] {
				x.Class = 2
			}
			k += 2
		}
	}
	for f := range n.Funcs {
		for v := range n.Funcs[f].Vars {
			class(&n.Funcs[f].Vars[v])
		}
		class(&n.Funcs[f].Ret)
	}
	return n
}

func TestP1801Decode(t *testing.T) {
	t.Parallel()
	m := lowered("struct S { int v; S * n; }; S * f(int a, S * s) { return s; } int main() { S * a = new S; free(a); return 0; }")
	_, f := classes.Decode(api.Module{}, nil)
	is(t, "what is not right", f, api.NoMain)
	for _, n := range []int{0, 5, 7} {
		got, f := classes.Decode(m, make([]bool, n))
		is(t, "a model of another length", f, api.BadArg)
		equal(t, "nothing", got, api.Module{})
	}
	m.Funcs[0].Vars[0].Class, m.Funcs[0].Vars[1].Class, m.Funcs[1].Ins[0].Mode, m.Funcs[0].From = 7, 8, []int{4}, []int{1}
	for n := range 1 << 6 {
		model := make([]bool, 6)
		for k := range model {
			model[k] = n>>k&1 == 1
		}
		got, f := classes.Decode(m, model)
		is(t, "fault", f, api.OK)
		equal(t, fmt.Sprint("Decode ", model), got, classed(m, model))
	}
	before := cloned(m)
	got, _ := classes.Decode(m, make([]bool, 6))
	spoil(got)
	is(t, "what was handed in stays", ir.Same(m, before), true)
	none, f := classes.Decode(lowered(mainText), nil)
	is(t, "no pointers", fmt.Sprint(f, ir.Same(none, lowered(mainText))), "0 true")
}

func TestP1802Infer(t *testing.T) {
	t.Parallel()
	for _, c := range []struct{ src, want string }{
		{"S * a = new S; free(a); return 0;", "own"},
		{"S * a = new S; return a->v;", "own"},
		{"S * a = null; return a->v;", "share"},
		{"S * a = null; a->v = 1; return 0;", "mut"},
		{"S * a = new S; S * b = a; return b->v;", "own share"},
		{"S * a = new S; S * b = a; b->v = 1; return a->v;", "own mut"},
		{"S * a = new S; S * b = a; free(b); return 0;", "own own"},
		{"S * a = new S; a->n = new S; S * b = a->n; return b->v;", "own own share"},
		{"S * a = new S; S * b = a->n; a->n = null; free(b); free(a); return 0;", "own own own"},
		{"S * a = new S; look(a); change(a); return eat(a);", "own share"},
	} {
		src := "struct S { int v; S * n; }; S * look(S * s) { return null; } int change(S * s) { s->v = 1; return 1; } int eat(S * s) { free(s); return 1; } S * same(S * s) { return s; } int main() { " + c.src + " }"
		m, d := classes.Infer(lowered(src))
		is(t, c.src, d, api.Diag{})
		var got []string
		for _, v := range m.Funcs[4].Vars {
			if v.T.Ptr {
				got = append(got, classes.Word(v.Class))
			}
		}
		is(t, c.src, strings.Join(got, " "), c.want)
	}
}

func TestP1802Unsure(t *testing.T) {
	t.Parallel()
	const head = "struct S { int v; S * n; };\nint eat(S * s) { free(s); return 1; }\n"
	for _, c := range []struct {
		src  string
		want api.Diag
	}{
		{"int main() { S * a = new S; S * b = a; free(a); free(b); return 0; }", diag(18, api.Unsure, 3, 49)},
		{"int main() { S * a = new S; free(a); S * b = a; free(b); return a->v; }", diag(18, api.Unsure, 3, 49)},
		{"int main() { S * a = new S; S * b = a; a->n = b; free(b); return b->v; }", diag(18, api.Unsure, 3, 40)},
		{"int main() { S * a = null; eat(a); return a->v; }", diag(18, api.Unsure, 3, 28)},
		{"int main() { S * a = null; eat(a); return 0; }", api.Diag{}},
	} {
		m := lowered(head + c.src)
		_, d := classes.Infer(m)
		is(t, c.src, d, c.want)
		is(t, c.src, d, firstUnsure(m, wanted(m)))
	}
	m, d := classes.Infer(api.Module{})
	is(t, "what is not right", d, diag(18, api.NoMain, 0, 0))
	equal(t, "nothing", m, api.Module{})
}

// firstUnsure: the diag of a module by its wants, clause by clause.
func firstUnsure(m api.Module, w *wantsAgain) api.Diag {
	for k := range w.clauses {
		if _, is := solve.Solve(cnf.Formula{N: 2 * len(w.names), L: w.clauses[:k+1]}); !is {
			why := w.whys[k]
			return api.Diag{Stage: 18, What: api.Unsure, At: m.Funcs[why[0]].Ins[max(0, why[1])].At}
		}
	}
	return api.Diag{}
}

func TestP1802Chance(t *testing.T) {
	t.Parallel()
	sure, unsure, small := 0, 0, 0
	for _, m := range someModules(700) {
		w := wanted(m)
		f := cnf.Formula{N: 2 * len(w.names), L: w.clauses}
		before := cloned(m)
		got, d := classes.Infer(m)
		model, is1 := solve.Solve(f)
		if !is1 {
			unsure++
			is(t, "Infer", d, firstUnsure(m, w))
			equal(t, "nothing", got, api.Module{})
			continue
		}
		sure++
		is(t, "Infer", d, api.Diag{})
		if f.N <= 12 {
			small++
			equal(t, "the first model", model, modelsAgain(f)[0])
		}
		equal(t, "Infer", got, classed(m, model))
		spoil(got)
		must(t, "what was handed in stays", ir.Same(m, before))
	}
	must(t, fmt.Sprint("both kinds ", sure, unsure, small), sure > 20 && unsure > 20 && small > 5)
}

func TestP1802Many(t *testing.T) {
	t.Parallel()
	// Functions of 299 pointers and a number each; main has as many more as are asked.
	many := func(more int) api.Module {
		m := api.Module{Structs: []api.Struct{{Name: "S"}}}
		for f := range 6 {
			c := api.Code{Name: fmt.Sprint("f", f), Vars: []api.Var{{}}, Ins: []api.Instr{{Op: api.Ret}}}
			n := 280
			if f == 5 {
				c.Name, n = "main", more
			}
			for range n {
				c.Vars = append(c.Vars, cell("S"))
			}
			m.Funcs = append(m.Funcs, c)
		}
		return m
	}
	m, d := classes.Infer(many(100))
	is(t, "1500 pointers", d, api.Diag{})
	own, mut, share := classes.Count(m)
	is(t, "all are lent to look at", fmt.Sprint(own, mut, share), "0 0 1500")
	m, d = classes.Infer(many(101))
	is(t, "1501 pointers", d, diag(18, api.TooLarge, 0, 0))
	equal(t, "nothing", m, api.Module{})
	odd := many(101)
	odd.Funcs[5].Ins[0] = api.Instr{Op: api.Free, A: 1}
	_, d = classes.Infer(odd)
	is(t, "what is not right, of 1501 pointers", d, diag(18, api.Loose, 0, 0))
	result := many(100)
	result.Funcs[0].Ret = cell("S")
	result.Funcs[0].Ins[0].A = 1
	_, d = classes.Infer(result)
	is(t, "a result is a pointer too", d, diag(18, api.TooLarge, 0, 0))
	unsure := many(100)
	unsure.Funcs[0].Ins = []api.Instr{{Op: api.Give, D: 1, A: 2}, {Op: api.Free, A: 1}, {Op: api.Free, A: 2, At: api.Pos{Line: 7, Col: 8}}, {Op: api.Ret}}
	unsure.Funcs[0].Ins[1].At = api.Pos{Line: 5, Col: 6}
	_, d = classes.Infer(unsure)
	is(t, "Unsure, of 1500 pointers", d, diag(18, api.Unsure, 5, 6))
	unsure.Funcs[5].Vars = append(unsure.Funcs[5].Vars, cell("S"))
	_, d = classes.Infer(unsure)
	is(t, "TooLarge ahead of Unsure", d, diag(18, api.TooLarge, 0, 0))
}

func TestP1803Words(t *testing.T) {
	t.Parallel()
	is(t, "Word", fmt.Sprintf("%q", []string{classes.Word(0), classes.Word(1), classes.Word(2), classes.Word(3), classes.Word(4), classes.Word(-1), classes.Word(math.MaxInt), classes.Word(math.MinInt)}), `["plain" "own" "mut" "share" "" "" "" ""]`)
	for w, want := range map[string]string{"plain": "0 true", "own": "1 true", "mut": "2 true", "share": "3 true", "": "0 false", "Own": "0 false", "own ": "0 false", "int": "0 false"} {
		n, is1 := classes.Class(w)
		is(t, "Class "+w, fmt.Sprint(n, is1), want)
	}
	m := everyOp()
	m.Funcs[0].Vars[0].Class, m.Funcs[0].Ret.Class, m.Funcs[1].Vars[1].Class, m.Funcs[1].Vars[2].Class, m.Funcs[1].Vars[0].Class = api.Own, api.Mut, api.Share, api.Own, api.Own
	m.Funcs[1].Vars[3].Class, m.Funcs[1].Ret.Class = 9, api.Share
	own, mut, share := classes.Count(m)
	is(t, "Count", fmt.Sprint(own, mut, share), "2 1 1")
	var got []string
	for v, f := range classes.Each(m) {
		got = append(got, fmt.Sprint(f, v.T.To, v.Class))
	}
	is(t, "Each", fmt.Sprint(got), "[0S1 00 0T0 0T2 11 1S3 1S1 1T9 10 13]")
	var some []string
	for v, f := range classes.Each(m) {
		if some = append(some, fmt.Sprint(f, v.T.To, v.Class)); len(some) == 4 {
			break
		}
	}
	is(t, "Each, as far as it is asked", fmt.Sprint(some), fmt.Sprint(got[:4]))
	own, mut, share = classes.Count(api.Module{})
	is(t, "Count of nothing", fmt.Sprint(own, mut, share), "0 0 0")
	for range classes.Each(api.Module{}) {
		t.Error("a variable of nothing")
	}
}

func TestP1804Laws(t *testing.T) {
	t.Parallel()
	for _, m := range someModules(400) {
		got, d := classes.Infer(m)
		if d != (api.Diag{}) {
			continue
		}
		w := wanted(m)
		var model []bool
		for v := range classes.Each(got) {
			if v.T.Ptr {
				model = append(model, v.Class == api.Own, v.Class == api.Mut)
			} else {
				is(t, "a number's class", v.Class, 0)
			}
		}
		f := cnf.Formula{N: 2 * len(w.names), L: w.clauses}
		must(t, "all clauses are true", cnf.Eval(f, model))
		// What is true must be, with all ahead of it as it is.
		s := solve.New(f)
		for k, is1 := range model {
			lit := -(k + 1)
			if s.Assume(lit) == is1 {
				t.Error("not the first model")
			}
			if is1 {
				s.Assume(-lit)
			}
		}
	}
}
