package checks

import (
	"bytes"
	"fmt"
	"math"
	"slices"
	"strings"
	"testing"

	"usufruct/api"
	"usufruct/blrun"
	"usufruct/classes"
	"usufruct/mcrun"
	"usufruct/points"
	"usufruct/rewrite"
	"usufruct/shapes"
	"usufruct/show"
	"usufruct/syntax"
	"usufruct/translate"
)

// expected: what a kind puts out, and returns, by its name.
func expected(name string, n int, in []byte) ([]byte, int64) {
	out := []byte{}
	switch name {
	case "list":
		s := 0
		for _, b := range in {
			s += int(b)
		}
		out = append(out, byte(s%256))
	case "reverse", "append":
		out = append(out, in...)
	case "tree":
		for v := range 256 {
			out = append(out, bytes.Repeat([]byte{byte(v)}, bytes.Count(in, []byte{byte(v)}))...)
		}
	case "stack", "raise":
		for k := len(in) - 1; k >= 0; k-- {
			b := int(in[k])
			if name == "raise" {
				b += n
			}
			out = append(out, byte(b%256))
		}
	}
	return out, int64(len(in) + n)
}

// inputs: bytes that come in, of all kinds.
func inputs() [][]byte {
	l := [][]byte{nil, {0}, {255}, {255, 255, 255}, []byte("ab"), []byte("hello world!"), {0, 1, 2, 3, 4, 5, 6, 7, 8, 9, 10, 11}, {11, 10, 9, 8, 7, 6, 5, 4, 3, 2, 1, 0}, bytes.Repeat([]byte{7}, 12), {200, 100, 0, 255, 128, 127, 1}}
	for seed := range uint64(6) {
		r := dice(seed)
		in := make([]byte, r.IntN(13))
		for k := range in {
			in[k] = byte(r.IntN(256))
		}
		l = append(l, in)
	}
	return l
}

func TestP3101Kinds(t *testing.T) {
	t.Parallel()
	const all = "list reverse tree stack append raise"
	is(t, "Kinds", strings.Join(shapes.Kinds(), " "), all)
	shapes.Kinds()[0] = "x"
	is(t, "Kinds are new", shapes.Kinds()[0], "list")
	k := 0
	for n, name := range shapes.Each() {
		is(t, "Each", fmt.Sprint(n, name), fmt.Sprint(k, strings.Fields(all)[k]))
		k++
	}
	is(t, "Each", k, 6)
	k = 0
	for range shapes.Each() {
		if k++; k == 3 {
			break
		}
	}
	is(t, "Each, as far as it is asked", k, 3)
}

func TestP3102Expect(t *testing.T) {
	t.Parallel()
	out, code, f := shapes.Expect(1, 7, []byte("ab"))
	is(t, "the example", fmt.Sprintf("%s %d %d", out, code, f), "ab 9 0")
	for _, c := range [][2]int{{-1, 0}, {6, 0}, {math.MinInt, 0}, {math.MaxInt, 0}, {0, -1}, {0, 100}, {5, math.MaxInt}, {5, math.MinInt}} {
		out, code, f := shapes.Expect(c[0], c[1], []byte("ab"))
		is(t, fmt.Sprint("Expect ", c), fmt.Sprint(len(out), code, f), fmt.Sprint(0, 0, api.BadArg))
		s, f := shapes.Source(c[0], c[1])
		is(t, fmt.Sprint("Source ", c), fmt.Sprint(len(s), f), fmt.Sprint(0, api.BadArg))
	}
	for kind, name := range shapes.Each() {
		for _, n := range []int{0, 1, 50, 99} {
			for _, in := range inputs() {
				before := slices.Clone(in)
				out, code, f := shapes.Expect(kind, n, in)
				want, result := expected(name, n, in)
				is(t, fmt.Sprint("Expect ", name, n, in), fmt.Sprint(out, code, f), fmt.Sprint(want, result, api.OK))
				for k := range out {
					out[k]++
				}
				equal(t, "what was handed in stays", in, before)
			}
		}
	}
}

func TestP3102Source(t *testing.T) {
	t.Parallel()
	for kind, name := range shapes.Each() {
		for _, n := range []int{0, 1, 7, 42, 99} {
			s, f := shapes.Source(kind, n)
			is(t, "fault", f, api.OK)
			p, d := syntax.Text(s)
			is(t, name, d, api.Diag{})
			is(t, "as show has it", show.Prog(p), s)
			m := lowered(s)
			for _, in := range inputs() {
				want, code := expected(name, n, in)
				line := fmt.Sprint(1, code, want)
				o := mcrun.Run(m, in, nil, 20000)
				is(t, fmt.Sprint(name, n, in), fmt.Sprint(o.Kind, o.Code, o.Out), line)
				e, ends := treeRun(p, in, nil, 100000)
				is(t, fmt.Sprint("the tree of ", name, n, in), fmt.Sprint(ends, e.Kind, e.Code, e.Out), "true"+" "+line)
			}
		}
	}
}

func TestP3103Part(t *testing.T) {
	t.Parallel()
	for name, head := range map[string]string{"push": "S * push(S * h, int v) {\n", "drop": "int drop(S * p) {\n", "show": "int show(S * p) {\n"} {
		part := shapes.Part(name)
		must(t, "from its head on", strings.HasPrefix(part, head))
		must(t, "up to its end", strings.HasSuffix(part, "\n}\n") && strings.Count(part, "\n}\n") == 1)
		p, d := syntax.Text(part)
		is(t, "a function", fmt.Sprint(d, len(p.Structs), len(p.Funcs)), fmt.Sprint(api.Diag{}, 0, 1))
		is(t, "as show has it", show.Prog(p), part)
		for kind, k := range shapes.Kinds() {
			s, _ := shapes.Source(kind, 5)
			if k == "list" || k == "reverse" || k == "append" || k == "raise" {
				must(t, k+" has "+name, strings.Contains(s, part))
			}
		}
	}
	for _, name := range []string{"", "Push", "main", "push ", "pop", "S"} {
		is(t, "Part "+name, shapes.Part(name), "")
	}
	src := "struct S {\n  int v;\n  S * next;\n};\n" + shapes.Part("push") + shapes.Part("drop") + shapes.Part("show") + "int main() { S * l = push(push(push(null, 67), 66), 65); put(48 + show(l)); return drop(l); }"
	o := mcrun.Run(lowered(src), nil, nil, 1000)
	is(t, "what the parts do", fmt.Sprint(o.Kind, o.Code, string(o.Out), o.Left), "1 3ABC30")
	w, d := translate.Do(src)
	is(t, "translated", d, api.Diag{})
	o = blrun.Run(w.Target, nil, nil, 1000)
	is(t, "what their translation does", fmt.Sprint(o.Kind, o.Code, string(o.Out), o.Left), "1 3ABC30")
}

func TestP3104Translated(t *testing.T) {
	t.Parallel()
	// Also P4: owners are translated.
	for kind, name := range shapes.Each() {
		for _, n := range []int{0, 13, 99} {
			s, _ := shapes.Source(kind, n)
			w, d := translate.Do(s)
			is(t, name, d, api.Diag{})
			own, mut, share := classes.Count(w.Target)
			moves, lends := rewrite.Moves(w.Target)
			sets, _ := points.Of(w.Lower)
			must(t, fmt.Sprint(name, " owns, lends, moves and makes ", own, mut, share, moves, lends), own > 0 && mut+share > 0 && moves > 0 && lends > 0 && len(sets.Sites()) > 0)
			for _, in := range inputs() {
				want, code := expected(name, n, in)
				o := blrun.Run(w.Target, in, nil, 20000)
				is(t, fmt.Sprint(name, n, in), fmt.Sprint(o.Kind, o.Code, o.Out, o.Left), fmt.Sprint(1, code, want, 0))
				a := mcrun.Run(w.Lower, in, nil, 20000)
				is(t, "as many steps", o.Steps, a.Steps)
			}
		}
	}
}
