package checks

import (
	"fmt"
	"math"
	"strings"
	"testing"

	"usufruct/api"
	"usufruct/bl"
	"usufruct/blread"
	"usufruct/blrun"
	"usufruct/classes"
	"usufruct/hollow"
	"usufruct/ir"
	"usufruct/lower"
	"usufruct/mcrun"
	"usufruct/nll"
	"usufruct/rewrite"
	"usufruct/show"
	"usufruct/syntax"
	"usufruct/translate"
)

const cellHead = "struct S { int v; S * n; S * m; };\n"

// wrongSources: sources with the diags that they have.
func wrongSources() map[string]api.Diag {
	return map[string]api.Diag{
		"int main() { return 007; }":          diag(1, api.Odd, 1, 21),
		strings.Repeat(" ", api.MaxText+1):    diag(1, api.TooLarge, 1, 1),
		"":                                    diag(4, api.NoMain, 1, 1),
		"int main() { return }":               diag(2, api.Odd, 1, 21),
		"int main() { return x; }":            diag(4, api.Unknown, 1, 21),
		"int f() { return 1; }":               diag(4, api.NoMain, 1, 1),
		"int main() { return null == null; }": diag(6, api.Unknown, 1, 21),
		cellHead + "int main() { S * a = new S; S * b = a; free(a);\n free(b); return 0; }":                            diag(18, api.Unsure, 3, 2),
		cellHead + "int main() { S * a = new S;\n S * b = a->n; free(b);\n S * c = a->n; free(a); return c == null; }": diag(28, api.Hollow, 4, 11),
		cellHead + "int main() { S * a = new S; if (get()) {\n free(a); }\n  free(a); return 0; }":                     diag(23, api.Moved, 4, 3),
		cellHead + "int main() { S * a = new S; S * b = a;\n free(a); return b == null; }":                             diag(25, api.Lent, 3, 2),
		cellHead + "S * f() { S * a = new S; S * b = a;\n return b; }\nint main() { S * c = f(); return c == null; }":  diag(25, api.Short, 3, 2),
	}
}

func TestP2901Do(t *testing.T) {
	t.Parallel()
	const src = "int main() { return 7; }"
	text, d := translate.Text(src)
	is(t, "the example", d, api.Diag{})
	is(t, "the example", text, "fn main() -> int {\n  var int\n  0 num x0 7\n  1 ret x0\n}\n")
	for src, want := range wrongSources() {
		text, d := translate.Text(src)
		is(t, src[:min(len(src), 200)], d, want)
		is(t, "no text", text, "")
		w, d := translate.Do(src)
		is(t, src[:min(len(src), 200)], d, want)
		checkWork(t, src, w, d)
	}
}

// checkWork: a work is what the stages make, one behind the other, as far as its diag is not theirs.
func checkWork(t *testing.T, src string, w translate.Work, d api.Diag) {
	t.Helper()
	var want translate.Work
	var e api.Diag
	steps := []func(){
		func() { want.Source, e = syntax.Text(src) },
		func() { want.Lower, e = lower.Lower(want.Source) },
		func() { want.Class, e = classes.Infer(want.Lower) },
		func() {
			m, _ := rewrite.Rewrite(want.Class)
			if e = rewrite.Source(m, hollow.Check(m)); e == (api.Diag{}) {
				e = rewrite.Source(m, nll.Check(m))
			}
			if e == (api.Diag{}) {
				want.Target, want.Text = m, bl.Text(m)
			}
		},
	}
	for _, do := range steps {
		if do(); e != (api.Diag{}) {
			break
		}
	}
	is(t, "diag", d, e)
	equal(t, "Source", w.Source, want.Source)
	equal(t, "Lower", w.Lower, want.Lower)
	equal(t, "Class", w.Class, want.Class)
	equal(t, "Target", w.Target, want.Target)
	is(t, "Text", w.Text, want.Text)
}

func TestP2901Chance(t *testing.T) {
	t.Parallel()
	found := map[int]int{}
	for seed := range uint64(500) {
		src := show.Prog(sanely(seed))
		w, d := translate.Do(src)
		checkWork(t, src, w, d)
		text, e := translate.Text(src)
		is(t, "Text", e, d)
		is(t, "Text", text, w.Text)
		found[d.Stage]++
		if d.Stage >= 18 {
			must(t, "a place in the source", d.At.Line > 1 && d.At.Col > 0)
		}
	}
	for _, stage := range []int{0, 18, 23, 25, 28} {
		must(t, fmt.Sprint("some of stage ", stage), found[stage] > 5)
	}
}

func TestP2902Names(t *testing.T) {
	t.Parallel()
	is(t, "Stages", translate.Stages(), "[1 2 4 6 18 27 28 22 23 25]")
	translate.Stages()[0] = 9
	is(t, "Stages are new", translate.Stages()[0], 1)
	words := strings.Fields("ok bad-argument too-large odd deep unknown twice mistyped no-return no-main unsure moved lent short hollow loose")
	for k, w := range words {
		is(t, "Name", translate.Name(api.Fault(k)), w)
	}
	for _, f := range []api.Fault{-1, 16, 17, math.MaxInt, math.MinInt} {
		is(t, fmt.Sprint("Name ", int(f)), translate.Name(f), "")
	}
	is(t, "Message", translate.Message(diag(4, api.Unknown, 3, 14)), "3:14: unknown (stage 4)")
	is(t, "Message of no fault", translate.Message(api.Diag{}), "0:0: ok (stage 0)")
	is(t, "Message of anything", translate.Message(diag(-1, 99, math.MinInt, -7)), fmt.Sprint(math.MinInt, ":-7:  (stage -1)"))
}

// translated: sources that are translated, with their works.
func translated(t *testing.T, n int, look func(p api.Prog, w translate.Work)) {
	count := 0
	for seed := range uint64(n) {
		p := sanely(seed)
		w, d := translate.Do(show.Prog(p))
		if d == (api.Diag{}) {
			count++
			look(p, w)
		}
	}
	must(t, fmt.Sprint("some are translated ", count), count > n/10)
}

func TestP2903Read(t *testing.T) {
	t.Parallel()
	translated(t, 1500, func(p api.Prog, w translate.Work) {
		m, f := blread.Read(w.Text)
		is(t, "fault", f, api.OK)
		must(t, "accepted", nll.Accept(m))
		is(t, "whose text is it again", bl.Text(m), w.Text)
		is(t, "as many functions", len(m.Funcs), len(p.Funcs))
		for k, c := range p.Funcs {
			n := ir.Func(m, c.Name)
			is(t, "each function, by its name", n, k)
			is(t, "as many parameters", m.Funcs[n].Params, len(c.Params))
		}
		must(t, "nothing is hollow", hollow.Check(m) == api.Diag{})
	})
}

func TestP2903Runs(t *testing.T) {
	t.Parallel()
	found := map[int]int{}
	translated(t, 3000, func(p api.Prog, w translate.Work) {
		for k := range uint64(3) {
			in, fails := tries(k*31 + uint64(len(w.Text)))
			a, b := mcrun.Run(w.Lower, in, fails, 600), blrun.Run(w.Target, in, fails, 600)
			found[a.Kind]++
			must(t, "not stuck", b.Kind != 5)
			if a.Kind != 2 {
				is(t, w.Text, fmt.Sprint(b.Kind, b.Code, b.Out, b.Steps), fmt.Sprint(a.Kind, a.Code, a.Out, a.Steps))
			}
			if b.Kind == 1 {
				is(t, "each cell was dropped", b.Left, 0)
			}
		}
	})
	must(t, fmt.Sprint("all kinds ", found), found[1] > 100 && found[2] > 100 && found[4] > 100)
}

func TestP1Examples(t *testing.T) {
	t.Parallel()
	for _, c := range []struct{ src, classes string }{
		{"S * a = new S; free(a); return 0;", "own"},
		{"S * a = new S; int v = a->v; free(a); return v;", "own"},
		{"S * a = new S; S * b = a; int v = b->v; free(a); return v;", "own share"},
		{"S * a = new S; S * b = a; b->v = 3; int v = a->v; free(a); return v;", "own mut"},
		{"S * a = null; int i = 5; while (i) { S * b = new S; b->v = i; b->n = a; a = b; i = i - 1; } int s = 0; S * p = a; while (p != null) { s = s + p->v; p = p->n; } return s;", "own own share"},
		{"S * a = new S; a->n = new S; S * b = a->n; a->n = null; free(a); free(b); return 0;", "own own own own"},
	} {
		src := cellHead + "int main() { " + c.src + " }"
		w, d := translate.Do(src)
		is(t, c.src, d, api.Diag{})
		var got []string
		for _, v := range w.Target.Funcs[0].Vars {
			if v.T.Ptr {
				got = append(got, classes.Word(v.Class))
			}
		}
		is(t, c.src, strings.Join(got, " "), c.classes)
		a, b := mcrun.Run(w.Lower, nil, nil, 500), blrun.Run(w.Target, nil, nil, 500)
		is(t, c.src, fmt.Sprint(b.Kind, b.Code, b.Steps, b.Left), fmt.Sprint(a.Kind, a.Code, a.Steps, 0))
	}
}

func TestP2Bytes(t *testing.T) {
	t.Parallel()
	// The translator ends for all bytes, with a diag, or a text.
	for seed := range uint64(2000) {
		src := chanceText(seed)
		text, d := translate.Text(src)
		must(t, "a diag that has a stage, or a text", (d == api.Diag{}) == (text != "") && (d == api.Diag{}) == (d.Stage == 0))
	}
	for seed := range uint64(600) {
		r := dice(seed)
		p := wild{r}.prog()
		src := written(&p, r)
		_, d := translate.Text(src)
		must(t, "a stage", d.Stage > 0 || d == api.Diag{})
		b := []byte(src)
		if len(b) > 0 {
			b[r.IntN(len(b))] = byte(r.IntN(256))
		}
		_, d = translate.Text(string(b))
		must(t, "a stage", d.Stage > 0 || d == api.Diag{})
	}
}
