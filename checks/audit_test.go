package checks

import (
	"fmt"
	"math"
	"slices"
	"strings"
	"testing"

	"usufruct/api"
	"usufruct/audit"
	"usufruct/bl"
	"usufruct/cnf"
	"usufruct/hollow"
	"usufruct/ir"
	"usufruct/nll"
	"usufruct/proof"
	"usufruct/shapes"
	"usufruct/show"
	"usufruct/solve"
	"usufruct/translate"
	"usufruct/want"
)

// totalsAgain: what there is in a work, each thing counted on its own.
func totalsAgain(w translate.Work) audit.Totals {
	var t audit.Totals
	if ir.Right(w.Lower) == api.OK {
		m := w.Lower
		n := len(m.Funcs)
		t.Funcs = n
		reach := make([][]bool, n)
		for f, c := range m.Funcs {
			reach[f] = make([]bool, n)
			t.Vars += len(c.Vars)
			t.Instrs += len(c.Ins)
			t.Blocks += len(blocksAgain(c))
			t.Loops += len(loopsAgain(c))
			for _, i := range c.Ins {
				if i.Op == api.Call {
					reach[f][i.F] = true
				}
				t.Sites += btoi(i.Op == api.New)
			}
		}
		for k := range n {
			for f := range n {
				for h := range n {
					reach[f][h] = reach[f][h] || reach[f][k] && reach[k][h]
				}
			}
		}
		for f := range n {
			first := true
			for h := range f {
				first = first && !(reach[f][h] && reach[h][f])
			}
			t.Groups += btoi(first)
		}
		t.Clauses = len(wanted(m).clauses)
	}
	if bl.Formed(w.Target) == api.OK {
		for _, c := range w.Target.Funcs {
			for _, v := range append(slices.Clone(c.Vars), c.Ret) {
				t.Own += btoi(v.Class == 1)
				t.Mut += btoi(v.Class == 2)
				t.Share += btoi(v.Class == 3)
			}
			for _, i := range c.Ins {
				for _, mode := range i.Mode {
					t.Moves += btoi(mode == 1)
					t.Lends += btoi(mode == 2 || mode == 3)
				}
			}
			for _, l := range loansAgain(c) {
				t.Loans += btoi(l.At >= 0)
			}
		}
	}
	return t
}

func TestP3201Count(t *testing.T) {
	t.Parallel()
	w, _ := translate.Do("int main() { return 7; }")
	is(t, "the example", fmt.Sprintf("%+v", audit.Count(w)), "{Funcs:1 Vars:1 Instrs:2 Blocks:1 Loops:0 Groups:1 Sites:0 Clauses:0 Own:0 Mut:0 Share:0 Moves:0 Lends:0 Loans:0}")
	is(t, "nothing", audit.Count(translate.Work{}), audit.Totals{})
	for kind, name := range shapes.Each() {
		s, _ := shapes.Source(kind, 3)
		w, _ := translate.Do(s)
		n := audit.Count(w)
		is(t, name, n, totalsAgain(w))
		must(t, fmt.Sprint(name, n), n.Own > 0 && n.Mut+n.Share > 0 && n.Moves > 0 && n.Sites > 0 && n.Loops > 0)
	}
	translated(t, 400, func(p api.Prog, w translate.Work) {
		is(t, w.Text, audit.Count(w), totalsAgain(w))
		w.Lower.Funcs = slices.Clone(w.Lower.Funcs)
		w.Lower.Funcs[0].Params = -1
		is(t, "without what is lowered", audit.Count(w), totalsAgain(w))
	})
	for _, m := range lentModules(200) {
		v := translate.Work{Lower: m, Target: m}
		is(t, "of anything", audit.Count(v), totalsAgain(v))
		v = translate.Work{Lower: m, Target: bl.Plain(m)}
		is(t, "of what is not formed", audit.Count(v), totalsAgain(v))
		v.Target = cloned(m)
		v.Target.Funcs[0].From = []int{-1}
		is(t, "of what is not formed, but has classes", audit.Count(v), totalsAgain(v))
	}
}

// sourceWork: the work of a source that is translated.
func sourceWork(t *testing.T) translate.Work {
	w, d := translate.Do(cellHead + "int look(S * a) { return a->v; }\nS * same(S * a) { return a; }\nint main() { S * x = new S; S * y = x; int i = look(y); free(x); return i + (same(null) == null); }")
	is(t, "translated", d, api.Diag{})
	return w
}

func TestP3202Find(t *testing.T) {
	t.Parallel()
	find := func(w translate.Work) string { return strings.Join(audit.Find(w), " ") }
	is(t, "nothing is found", find(sourceWork(t)), "")
	is(t, "of nothing", find(translate.Work{}), "lower target")
	for _, c := range []struct {
		what, want string
		by         func(w *translate.Work)
	}{
		{"lower", "lower", func(w *translate.Work) { w.Lower.Funcs[0].Params = 9; w.Text = "" }},
		{"target", "target", func(w *translate.Work) { w.Target.Funcs[0].Vars[0].Class = 0; w.Text = "" }},
		{"both", "lower target", func(w *translate.Work) { w.Target, w.Lower = api.Module{}, api.Module{} }},
		{"another number", "plain", func(w *translate.Work) { w.Lower.Funcs[2].Ins[6].Sign = "!=" }},
		{"a class of what is lowered", "plain", func(w *translate.Work) { w.Lower.Funcs[0].Vars[1].Class = 1 }},
		{"text", "text", func(w *translate.Work) { w.Text += "\n" }},
		{"no text", "text", func(w *translate.Work) { w.Text = "" }},
		{"another text", "text", func(w *translate.Work) { w.Text = everyBlText }},
		{"places are nothing", "", func(w *translate.Work) { w.Target.Funcs[0].Ins[0].At.Line = 99 }},
		{"what an operation has not", "plain", func(w *translate.Work) { w.Target.Funcs[0].Ins[0].N = 99 }},
		{"what an operation has not, of both", "", func(w *translate.Work) { w.Target.Funcs[0].Ins[0].N = 99; w.Lower.Funcs[0].Ins[0].N = 99 }},
	} {
		w := sourceWork(t)
		w.Lower, w.Target = cloned(w.Lower), cloned(w.Target)
		c.by(&w)
		is(t, c.what, find(w), c.want)
	}
}

func TestP3202Chance(t *testing.T) {
	t.Parallel()
	found := map[string]int{}
	modules := lentModules(700)
	for _, m := range someModules(700) {
		// Classes that fit, of which something else may be wrong.
		w := wanted(m)
		if model, is := solve.Solve(cnf.Formula{N: 2 * len(w.names), L: w.clauses}); is {
			modules = append(modules, byClasses(classed(m, model)))
		}
	}
	for _, m := range modules {
		w := wanted(m)
		var model []bool
		for _, n := range w.names {
			x := m.Funcs[n[0]].Ret
			if n[1] >= 0 {
				x = m.Funcs[n[0]].Vars[n[1]]
			}
			model = append(model, x.Class == 1, x.Class == 2)
		}
		var want []string
		if !cnf.Eval(cnf.Formula{N: 2 * len(w.names), L: w.clauses}, model) {
			want = append(want, "clauses")
		}
		if !nll.Accept(m) {
			want = append(want, "accept")
		}
		if hollow.Check(m) != (api.Diag{}) {
			want = append(want, "hollow")
		}
		for _, x := range want {
			found[x]++
		}
		found[strings.Join(want, " ")]++
		equal(t, "Find", audit.Find(translate.Work{Lower: bl.Plain(m), Target: m, Text: bl.Text(m)}), want)
		equal(t, "Find, without a text", audit.Find(translate.Work{Lower: bl.Plain(m), Target: m}), append(want, "text"))
	}
	for _, x := range []string{"", "clauses", "accept", "hollow", "clauses accept hollow"} {
		must(t, fmt.Sprintf("some have %q %v", x, found), found[x] > 10)
	}
}

func TestP3203Why(t *testing.T) {
	t.Parallel()
	why, is1 := audit.Why(api.Module{})
	is(t, "what is not right", fmt.Sprint(why, is1), "[] false")
	m := lowered(cellHead + "int main() { S * a = new S; S * b = a; free(a); free(b); return 0; }")
	why, is1 = audit.Why(m)
	is(t, "both freed", fmt.Sprint(why, is1), "[4 7] true")
	sure, unsure := 0, 0
	for _, m := range someModules(500) {
		w, _ := want.Of(m)
		f := w.Formula()
		why, is1 := audit.Why(m)
		if _, has := solve.Solve(f); has {
			sure++
			is(t, "there is a model", fmt.Sprint(why, is1), "[] false")
			continue
		}
		unsure++
		must(t, "there is none", is1)
		steps, _ := proof.Refute(f)
		equal(t, "a core of the proof", why, proof.Core(f, steps))
		g := cnf.Formula{N: f.N}
		for _, k := range why {
			g.L = append(g.L, f.L[k])
		}
		_, has := solve.Solve(g)
		must(t, "the clauses have no model", !has)
		must(t, "rising", slices.IsSorted(why))
	}
	must(t, fmt.Sprint("both kinds ", sure, unsure), sure > 50 && unsure > 50)
}

func TestP3204Lines(t *testing.T) {
	t.Parallel()
	is(t, "Lines", strings.Join(audit.Lines(sourceWork(t)), "; "), "look(share S) -> int; same(share S 'r) -> share S 'r; main() -> int")
	is(t, "Lines of nothing", audit.Lines(translate.Work{}), "[]")
	w := sourceWork(t)
	w.Target = bl.Plain(w.Target)
	is(t, "Lines of what is not formed", audit.Lines(w), "[]")
	for _, m := range lentModules(200) {
		m.Funcs[0].From = nil
		sets, _ := originsAgain(m)
		var want []string
		for f, c := range m.Funcs {
			var params []string
			for v := range c.Params {
				params = append(params, signOf(c.Vars[v], slices.Contains(sets[ofResult(f)], v)))
			}
			want = append(want, c.Name+"("+strings.Join(params, ", ")+") -> "+signOf(c.Ret, lentAgain(c.Ret)))
		}
		equal(t, "Lines", audit.Lines(translate.Work{Target: m}), want)
	}
}

func TestP3204Deepest(t *testing.T) {
	t.Parallel()
	for seed := range uint64(300) {
		r := dice(seed)
		m := api.Module{Funcs: []api.Code{anyCode(r, 12), anyCode(r, 30), {}}}
		for f, c := range m.Funcs {
			deepest := 0
			for _, l := range dominators(c) {
				deepest = max(deepest, len(l))
			}
			is(t, "Deepest", audit.Deepest(m, f), deepest)
		}
	}
	m := everyOp()
	for _, n := range []int{-1, 2, math.MinInt, math.MaxInt} {
		is(t, "of no function", audit.Deepest(m, n), 0)
	}
	is(t, "of a straight one", audit.Deepest(m, 0), 2)
}

func TestP3205Laws(t *testing.T) {
	t.Parallel()
	translated(t, 1000, func(p api.Prog, w translate.Work) {
		is(t, show.Prog(p), strings.Join(audit.Find(w), " "), "")
	})
	for kind := range shapes.Each() {
		for _, n := range []int{0, 99} {
			s, _ := shapes.Source(kind, n)
			w, d := translate.Do(s)
			is(t, "translated", d, api.Diag{})
			is(t, s, strings.Join(audit.Find(w), " "), "")
		}
	}
}
