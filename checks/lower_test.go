package checks

import (
	"fmt"
	"strings"
	"testing"

	"usufruct/api"
	"usufruct/ir"
	"usufruct/lower"
	"usufruct/names"
	"usufruct/show"
	"usufruct/syntax"
)

// dump: a function's variables and instructions, with all that an instruction has; places where they are asked.
func dump(c api.Code, places bool) string {
	var b strings.Builder
	for i, v := range c.Vars {
		if i > 0 {
			b.WriteString(" ")
		}
		if b.WriteString("int"[:3*btoi(!v.T.Ptr)] + v.T.To); v.Class != 0 {
			b.WriteString(fmt.Sprint("?", v.Class))
		}
	}
	for _, i := range c.Ins {
		b.WriteString(" | " + instrText(i))
		if places {
			fmt.Fprintf(&b, " @%d.%d", i.At.Line, i.At.Col)
		}
	}
	return b.String()
}

func btoi(b bool) int {
	if b {
		return 1
	}
	return 0
}

// instrText: an instruction, with what it has that is not zero.
func instrText(i api.Instr) string {
	s := []string{"", "num", "null", "copy", "bin", "get", "put", "load", "store", "give", "take", "set", "new", "free", "isnull", "call", "jump", "branch", "ret"}[i.Op]
	switch i.Op {
	case api.Num:
		s += fmt.Sprintf(" x%d %d", i.D, i.N)
		i.D, i.N = 0, 0
	case api.Null, api.Get:
		s += fmt.Sprintf(" x%d", i.D)
		i.D = 0
	case api.Copy, api.Give:
		s += fmt.Sprintf(" x%d x%d", i.D, i.A)
		i.D, i.A = 0, 0
	case api.Bin:
		s += fmt.Sprintf(" x%d x%d %s x%d", i.D, i.A, i.Sign, i.B)
		i.D, i.A, i.B, i.Sign = 0, 0, 0, ""
	case api.Put, api.Free, api.Ret:
		s += fmt.Sprintf(" x%d", i.A)
		i.A = 0
	case api.Load, api.Take:
		s += fmt.Sprintf(" x%d x%d.%d", i.D, i.A, i.F)
		i.D, i.A, i.F = 0, 0, 0
	case api.Store, api.Set:
		s += fmt.Sprintf(" x%d.%d x%d", i.A, i.F, i.B)
		i.A, i.F, i.B = 0, 0, 0
	case api.New:
		s += fmt.Sprintf(" x%d %d", i.D, i.F)
		i.D, i.F = 0, 0
	case api.IsNull:
		s += fmt.Sprintf(" x%d %s x%d", i.D, i.Sign, i.A)
		i.D, i.A, i.Sign = 0, 0, ""
	case api.Call:
		s += fmt.Sprintf(" x%d f%d %v", i.D, i.F, i.Args)
		i.D, i.F, i.Args = 0, 0, nil
	case api.Jump:
		s += fmt.Sprintf(" %d", i.To)
		i.To = 0
	case api.Branch:
		s += fmt.Sprintf(" x%d %d %d", i.A, i.To, i.Else)
		i.A, i.To, i.Else = 0, 0, 0
	}
	rest := i
	rest.Op, rest.At = 0, api.Pos{}
	if fmt.Sprintf("%v", rest) != fmt.Sprintf("%v", api.Instr{}) {
		s += fmt.Sprintf(" and %v", rest)
	}
	return s
}

// lowered: a program's text as a module.
func lowered(src string) api.Module {
	m, d := lower.Text(src)
	if d != (api.Diag{}) {
		panic(fmt.Sprint("not lowered: ", d, " ", src))
	}
	return m
}

func TestP601Main(t *testing.T) {
	t.Parallel()
	const head = "struct S { int v; S * n; T * t; }; struct T { T * t; }; int f(int a, S * s) { return a; } S * g(T * t) { return null; } int main() { "
	for _, c := range []struct{ src, want string }{
		{"return 1 + 2;", "int int int | num x0 1 | num x1 2 | bin x2 x0 + x1 | ret x2"},
		{"return 7;", "int | num x0 7 | ret x0"},
		{"int a = 1; return a;", "int | num x0 1 | ret x0"},
		{"int a = 1; int b = a; a = b; a = a; return b;", "int int | num x0 1 | copy x1 x0 | copy x0 x1 | copy x0 x0 | ret x1"},
		{"S * a = new S; S * b = a; b = a; a = null; a = b->n; return 0;", "S S int | new x0 0 | give x1 x0 | give x1 x0 | null x0 | take x0 x1.1 | num x2 0 | ret x2"},
		{"T * a = new T; T * b = null; return 0;", "T T int | new x0 1 | null x1 | num x2 0 | ret x2"},
		{"int a = get(); a = get(); return get();", "int int | get x0 | get x0 | get x1 | ret x1"},
		{"int a = 1 - 2 * 3; return a;", "int int int int int | num x1 1 | num x2 2 | num x3 3 | bin x4 x2 * x3 | bin x0 x1 - x4 | ret x0"},
		{"int a = 5; a = (a - 1) % (2 - a); return a < a;", "int int int int int int | num x0 5 | num x1 1 | bin x2 x0 - x1 | num x3 2 | bin x4 x3 - x0 | bin x0 x2 % x4 | bin x5 x0 < x0 | ret x5"},
		{"int a = -1; a = !a; a = -(-a); return !(a == 2);", "int int int int int int int int int int int | num x1 0 | num x2 1 | bin x0 x1 - x2 | num x3 0 | bin x0 x0 == x3 | num x4 0 | num x5 0 | bin x6 x5 - x0 | bin x0 x4 - x6 | num x7 2 | bin x8 x0 == x7 | num x9 0 | bin x10 x8 == x9 | ret x10"},
		{"S * s = new S; int v = s->v; v = s->n->v; s = s->n->n; T * t = s->t; return s->n->v;", "S int S S T S int | new x0 0 | load x1 x0.0 | take x2 x0.1 | load x1 x2.0 | take x3 x0.1 | take x0 x3.1 | take x4 x0.2 | take x5 x0.1 | load x6 x5.0 | ret x6"},
		{"S * s = new S; s->v = 1; s->n = null; s->n->t = new T; s->n = s; s->n->n->v = s->v + 1; return 0;", "S int S S T S S int int int int | new x0 0 | num x1 1 | store x0.0 x1 | null x2 | set x0.1 x2 | take x3 x0.1 | new x4 1 | set x3.2 x4 | set x0.1 x0 | take x5 x0.1 | take x6 x5.1 | load x7 x0.0 | num x8 1 | bin x9 x7 + x8 | store x6.0 x9 | num x10 0 | ret x10"},
		{"S * s = new S; int i = s == null; i = null != s; i = s->n == null; i = (g(null) != null) + 1; return null == null;", "S int S T S int int S int | new x0 0 | isnull x1 == x0 | isnull x1 != x0 | take x2 x0.1 | isnull x1 == x2 | null x3 | call x4 f1 [3] | isnull x5 != x4 | num x6 1 | bin x1 x5 + x6 | null x7 | isnull x8 == x7 | ret x8"},
		{"int i = null != null; return i;", "int S | null x1 | isnull x0 != x1 | ret x0"},
		{"f(1, null); int i = f(2, new S); i = f(i, g(new T)); g(null); return f(f(i, null), null);", "int S int int int S T S T S S int S int | num x0 1 | null x1 | call x2 f0 [0 1] | num x4 2 | new x5 0 | call x3 f0 [4 5] | new x6 1 | call x7 f1 [6] | call x3 f0 [3 7] | null x8 | call x9 f1 [8] | null x10 | call x11 f0 [3 10] | null x12 | call x13 f0 [11 12] | ret x13"},
		{"put(1); int a = 2; put(a); put(a + a); S * s = null; free(s); return 0;", "int int int S int | num x0 1 | put x0 | num x1 2 | put x1 | bin x2 x1 + x1 | put x2 | null x3 | free x3 | num x4 0 | ret x4"},
		{"if (1) { put(2); } return 0;", "int int int | num x0 1 | branch x0 2 4 | num x1 2 | put x1 | num x2 0 | ret x2"},
		{"if (1) { } return 0;", "int int | num x0 1 | branch x0 2 2 | num x1 0 | ret x1"},
		{"if (1) { } else { } return 0;", "int int | num x0 1 | branch x0 2 2 | num x1 0 | ret x1"},
		{"if (1) { put(2); } else { put(3); } return 0;", "int int int int | num x0 1 | branch x0 2 5 | num x1 2 | put x1 | jump 7 | num x2 3 | put x2 | num x3 0 | ret x3"},
		{"if (1) { } else { put(3); } return 0;", "int int int | num x0 1 | branch x0 2 3 | jump 5 | num x1 3 | put x1 | num x2 0 | ret x2"},
		{"if (1) { return 2; } else { put(3); } return 0;", "int int int int | num x0 1 | branch x0 2 4 | num x1 2 | ret x1 | num x2 3 | put x2 | num x3 0 | ret x3"},
		{"if (1) { return 2; } else { return 3; }", "int int int | num x0 1 | branch x0 2 4 | num x1 2 | ret x1 | num x2 3 | ret x2"},
		{"int i = 9; while (i) { i = i - 1; } return 0;", "int int int | num x0 9 | branch x0 2 5 | num x1 1 | bin x0 x0 - x1 | jump 1 | num x2 0 | ret x2"},
		{"while (get() != 7) { } return 0;", "int int int int | get x0 | num x1 7 | bin x2 x0 != x1 | branch x2 4 5 | jump 0 | num x3 0 | ret x3"},
		{"while (1) { while (2) { if (3) { break; } if (4) { continue; } } break; } return 0;", "int int int int int | num x0 1 | branch x0 2 12 | num x1 2 | branch x1 4 11 | num x2 3 | branch x2 6 7 | jump 11 | num x3 4 | branch x3 9 10 | jump 2 | jump 2 | jump 12 | num x4 0 | ret x4"},
		{"while (1) { if (2) { break; } else { continue; } } return 0;", "int int int | num x0 1 | branch x0 2 6 | num x1 2 | branch x1 4 5 | jump 6 | jump 0 | num x2 0 | ret x2"},
		{"while (1) { return 5; } return 0;", "int int int | num x0 1 | branch x0 2 4 | num x1 5 | ret x1 | num x2 0 | ret x2"},
		{"if (1) { int a = 2; put(a); } else { int a = 3; put(a); } int a = 4; return a;", "int int int int | num x0 1 | branch x0 2 5 | num x1 2 | put x1 | jump 7 | num x2 3 | put x2 | num x3 4 | ret x3"},
		{"while (1) { S * a = null; if (a == null) { break; } } int a = 1; return a;", "int S int int | num x0 1 | branch x0 2 7 | null x1 | isnull x2 == x1 | branch x2 5 6 | jump 7 | jump 0 | num x3 1 | ret x3"},
		{"int a = 2147483647; return -a;", "int int int | num x0 2147483647 | num x1 0 | bin x2 x1 - x0 | ret x2"},
	} {
		m := lowered(head + c.src + " }")
		is(t, c.src, dump(m.Funcs[2], false), c.want)
	}
}

func TestP601Module(t *testing.T) {
	t.Parallel()
	src := `struct T { S * s; };
struct S { int v; };
S * h(int a, S * b, T * c) { S * d = b; return c->s; }
int main() { return 0; }`
	m := lowered(src)
	equal(t, "structs", m.Structs, []api.Struct{
		{Name: "T", Fields: []api.Field{{Name: "s", T: to("S"), At: api.Pos{Line: 1, Col: 16}}}, At: api.Pos{Line: 1, Col: 1}},
		{Name: "S", Fields: []api.Field{{Name: "v", At: api.Pos{Line: 2, Col: 16}}}, At: api.Pos{Line: 2, Col: 1}},
	})
	is(t, "functions", len(m.Funcs), 2)
	h := m.Funcs[0]
	is(t, "h", fmt.Sprint(h.Name, " ", h.Params, h.Ret, len(h.From), " ", dump(h, false)), "h 3 {{true S} 0} 0 int S T S S | give x3 x1 | take x4 x2.0 | ret x4")
	is(t, "main", fmt.Sprint(m.Funcs[1].Name, " ", m.Funcs[1].Params, m.Funcs[1].Ret), "main 0 {{false } 0}")
	p := prog(src)
	n, _ := lower.Lower(p)
	n.Structs[0].Name, n.Structs[0].Fields[0].Name = "X", "Y"
	is(t, "what was handed in stays", p.Structs[0].Name+p.Structs[0].Fields[0].Name, "Ts")
}

func TestP601Places(t *testing.T) {
	t.Parallel()
	src := `struct S { int v; S * n; };
int f(S * a, int b) { return b; }
int main() {
  int x = 1;
  int y = x;
  S * s = new S;
  S * r = s;
  r = null;
  s->n->v = x + y;
  s->n = null;
  if (-x) { put(!y); } else { put(2); }
  while (s == null) {
    if (1) { break; } if (s->v) { continue; }
  }
  f(null, get());
  free(s);
  return null == null;
}`
	is(t, "places", dump(lowered(src).Funcs[1], true), strings.Join(strings.Fields(`int int S S S int S int int int int int int int int S int int S int |
		num x0 1 @4.11 | copy x1 x0 @5.11 | new x2 0 @6.11 | give x3 x2 @7.11 | null x3 @8.7 |
		take x4 x2.1 @9.4 | bin x5 x0 + x1 @9.15 | store x4.0 x5 @9.3 | null x6 @10.10 | set x2.1 x6 @10.3 |
		num x7 0 @11.7 | bin x8 x7 - x0 @11.7 | branch x8 13 17 @11.3 | num x9 0 @11.17 | bin x10 x1 == x9 @11.17 | put x10 @11.13 | jump 19 @11.3 | num x11 2 @11.35 | put x11 @11.31 |
		isnull x12 == x2 @12.12 | branch x12 21 28 @12.3 | num x13 1 @13.9 | branch x13 23 24 @13.5 | jump 28 @13.14 | load x14 x2.0 @13.28 | branch x14 26 27 @13.23 | jump 19 @13.35 | jump 19 @12.3 |
		null x15 @15.5 | get x16 @15.11 | call x17 f0 [15 16] @15.3 | free x2 @16.3 | null x18 @17.10 | isnull x19 == x18 @17.15 | ret x19 @17.3`), " "))
}

func TestP601Wrong(t *testing.T) {
	t.Parallel()
	check := func(src string, want api.Diag) {
		t.Helper()
		m, d := lower.Text(src)
		is(t, src, d, want)
		equal(t, src, m, api.Module{})
	}
	check("int main() { return 007; }", diag(1, api.Odd, 1, 21))
	check("int main() { return }", diag(2, api.Odd, 1, 21))
	check("int main() { return x; }", diag(4, api.Unknown, 1, 21))
	check("int f() { return null == null; }", diag(4, api.NoMain, 1, 1))
	check("int main() { return null == null; }", diag(6, api.Unknown, 1, 21))
	check("int main() { return 1 + (null != null); }", diag(6, api.Unknown, 1, 26))
	check("int main() { put(null == null); return x; }", diag(4, api.Unknown, 1, 40))
	check("int f() { return null == null; } int main() { return null != null; }", diag(6, api.Unknown, 1, 18))
	m, d := lower.Lower(prog("int main() { return null != null; }"))
	is(t, "Lower", d, diag(6, api.Unknown, 1, 21))
	equal(t, "Lower", m, api.Module{})
	_, d = lower.Lower(api.Prog{})
	is(t, "nothing", d, diag(4, api.NoMain, 1, 1))
}

func TestP601Limits(t *testing.T) {
	t.Parallel()
	vars := func(n int) string {
		return "int main() { int a = 0;" + strings.Repeat(" a = 1 + a;", n-1) + " return a; }"
	}
	m := lowered(vars(300))
	is(t, "300 variables", len(m.Funcs[0].Vars), 300)
	_, d := lower.Text("struct S { };\n" + vars(301))
	is(t, "301 variables", d, diag(6, api.TooLarge, 2, 1))
	ins := func(n int) string { return "int main() { int a = 0;" + strings.Repeat(" a = a;", n-2) + " return a; }" }
	m = lowered(ins(3000))
	is(t, "3000 instructions", len(m.Funcs[0].Ins), 3000)
	_, d = lower.Text("\n\n" + ins(3001))
	is(t, "3001 instructions", d, diag(6, api.TooLarge, 3, 1))
	long := "int f() { int a = 0;" + strings.Repeat(" a = a;", 3000) + " return "
	_, d = lower.Text(long + "null == null; }" + mainText)
	is(t, "Unknown ahead of TooLarge", d.What, api.Unknown)
	_, d = lower.Text(long + "0; } int main() { return null == null; }")
	is(t, "TooLarge in a function ahead", d, diag(6, api.TooLarge, 1, 1))
	_, d = lower.Text("int g() { return null == null; } " + long + "0; } " + mainText)
	is(t, "Unknown in a function ahead", d, diag(6, api.Unknown, 1, 18))
	params := "int f(int p0"
	for i := 1; i < 300; i++ {
		params += fmt.Sprint(", int p", i)
	}
	m = lowered(params + ") { return p0; } " + mainText)
	is(t, "300 parameters", m.Funcs[0].Params, 300)
	_, d = lower.Text(params + ", int q) { return p0; } " + mainText)
	is(t, "301 parameters", d, diag(6, api.TooLarge, 1, 1))
}

// lowerer: another way to lower, which writes instructions down as text, with names for places that are put in at last.
type lowerAgain struct {
	p     api.Prog
	vars  []api.Type
	lines []string
	marks map[string]int
	count int
}

func (l *lowerAgain) fresh(t api.Type) string {
	l.vars = append(l.vars, t)
	return fmt.Sprint("x", len(l.vars)-1)
}

func (l *lowerAgain) kind(x string) api.Type {
	var n int
	fmt.Sscanf(x, "x%d", &n)
	return l.vars[n]
}

func (l *lowerAgain) put(parts ...any) { l.lines = append(l.lines, fmt.Sprint(parts...)) }

func (l *lowerAgain) mark() string {
	l.count++
	return fmt.Sprint("<", l.count, ">")
}

func (l *lowerAgain) is(mark string) { l.marks[mark] = len(l.lines) }

// made: where the value goes: into what is wanted, or a fresh variable.
func (l *lowerAgain) made(x string, t api.Type) string {
	if x == "" {
		return l.fresh(t)
	}
	return x
}

func (l *lowerAgain) expr(e api.Expr, want api.Type, x string, seen map[string]string) string {
	kid := func(i int, want api.Type) string { return l.expr(e.Kids[i], want, "", seen) }
	switch e.Kind {
	case 1:
		x = l.made(x, number())
		l.put("num ", x, " ", e.N)
	case 2:
		if x == "" {
			return seen[e.Name]
		}
		l.put(map[bool]string{true: "give ", false: "copy "}[l.kind(x).Ptr], x, " ", seen[e.Name])
	case 3:
		a := kid(0, number())
		n, t, _ := names.Field(l.p, l.kind(a).To, e.Name)
		x = l.made(x, t)
		l.put(map[bool]string{true: "take ", false: "load "}[t.Ptr], x, " ", a, ".", n)
	case 4:
		x = l.binary(e, x, seen)
	case 5:
		if e.Op == "-" {
			a := l.fresh(number())
			l.put("num ", a, " 0")
			b := kid(0, number())
			x = l.made(x, number())
			l.put("bin ", x, " ", a, " - ", b)
		} else {
			a := kid(0, number())
			b := l.fresh(number())
			l.put("num ", b, " 0")
			x = l.made(x, number())
			l.put("bin ", x, " ", a, " == ", b)
		}
	case 6:
		x = l.made(x, want)
		l.put("null ", x)
	case 7:
		x = l.made(x, to(e.Name))
		l.put("new ", x, " ", names.Struct(l.p, e.Name))
	case 8:
		x = l.made(x, number())
		l.put("get ", x)
	case 9:
		n := names.Func(l.p, e.Name)
		var args []string
		for i := range e.Kids {
			args = append(args, strings.TrimPrefix(kid(i, l.p.Funcs[n].Params[i].T), "x"))
		}
		x = l.made(x, l.p.Funcs[n].Ret)
		l.put("call ", x, " f", n, " ", args)
	}
	return x
}

func (l *lowerAgain) binary(e api.Expr, x string, seen map[string]string) string {
	null := -1
	for i := range 2 {
		if e.Kids[i].Kind == 6 {
			null = i
		}
	}
	if null < 0 {
		a := l.expr(e.Kids[0], number(), "", seen)
		b := l.expr(e.Kids[1], number(), "", seen)
		x = l.made(x, number())
		l.put("bin ", x, " ", a, " ", e.Op, " ", b)
		return x
	}
	a := l.expr(e.Kids[1-null], to(l.p.Structs[0].Name), "", seen)
	x = l.made(x, number())
	l.put("isnull ", x, " ", e.Op, " ", a)
	return x
}

func (l *lowerAgain) list(list []api.Stmt, seen map[string]string, ret api.Type, begin, behind string) {
	inner := map[string]string{}
	for n, x := range seen {
		inner[n] = x
	}
	ended := func(list []api.Stmt) bool { return len(list) > 0 && endsAgain(list[len(list)-1]) }
	for _, s := range list {
		switch s.Kind {
		case 1:
			x := l.fresh(s.T)
			l.expr(s.E[0], s.T, x, inner)
			inner[s.Name] = x
		case 2:
			l.expr(s.E[0], l.kind(inner[s.Name]), inner[s.Name], inner)
		case 3:
			a := l.expr(s.E[0], number(), "", inner)
			n, t, _ := names.Field(l.p, l.kind(a).To, s.Name)
			b := l.expr(s.E[1], t, "", inner)
			l.put(map[bool]string{true: "set ", false: "store "}[t.Ptr], a, ".", n, " ", b)
		case 4:
			a := l.expr(s.E[0], number(), "", inner)
			other, end := l.mark(), l.mark()
			l.put("branch ", a, " ", len(l.lines)+1, " ", other)
			l.list(s.Body, inner, ret, begin, behind)
			if len(s.Else) > 0 && !ended(s.Body) {
				l.put("jump ", end)
			}
			l.is(other)
			l.list(s.Else, inner, ret, begin, behind)
			l.is(end)
		case 5:
			from, end := l.mark(), l.mark()
			l.is(from)
			a := l.expr(s.E[0], number(), "", inner)
			l.put("branch ", a, " ", len(l.lines)+1, " ", end)
			l.list(s.Body, inner, ret, from, end)
			if !ended(s.Body) {
				l.put("jump ", from)
			}
			l.is(end)
		case 6:
			l.put("jump ", behind)
		case 7:
			l.put("jump ", begin)
		case 8:
			l.put("ret ", l.expr(s.E[0], ret, "", inner))
		case 9:
			l.put("free ", inner[s.Name])
		case 10:
			l.put("put ", l.expr(s.E[0], number(), "", inner))
		case 11:
			l.expr(s.E[0], number(), "", inner)
		}
	}
}

func loweredAgain(p api.Prog, f api.Func) string {
	l := &lowerAgain{p: p, marks: map[string]int{}}
	seen := map[string]string{}
	for _, q := range f.Params {
		seen[q.Name] = l.fresh(q.T)
	}
	l.list(f.Body, seen, f.Ret, "", "")
	var kinds []string
	for _, v := range l.vars {
		kinds = append(kinds, "int"[:3*btoi(!v.Ptr)]+v.To)
	}
	s := strings.Join(append([]string{strings.Join(kinds, " ")}, l.lines...), " | ")
	for m, n := range l.marks {
		s = strings.ReplaceAll(s, m, fmt.Sprint(n))
	}
	return s
}

func TestP602Chance(t *testing.T) {
	t.Parallel()
	for seed := range uint64(1500) {
		p := sanely(seed)
		m, d := lower.Lower(p)
		if d.What == api.TooLarge {
			continue
		}
		is(t, "diag", d, api.Diag{})
		is(t, show.Prog(p), ir.Right(m), api.OK)
		is(t, "functions", len(m.Funcs), len(p.Funcs))
		for i, f := range p.Funcs {
			c := m.Funcs[i]
			is(t, "head", fmt.Sprint(c.Name, c.Params, c.Ret, c.From), fmt.Sprint(f.Name, len(f.Params), api.Var{T: f.Ret}, []int{}))
			is(t, show.Prog(p), dump(c, false), loweredAgain(p, f))
		}
		q, _ := syntax.Text(show.Prog(p))
		n, e := lower.Text(show.Prog(p))
		is(t, "diag", e, api.Diag{})
		k, _ := lower.Lower(q)
		equal(t, "Text", n, k)
	}
}

func TestP601Other(t *testing.T) {
	t.Parallel()
	// Of what no parser makes nothing is promised but an end.
	for k := -1; k < 14; k++ {
		e := api.Expr{Kind: k, Name: "S", Op: "?", Kids: []api.Expr{{Kind: k}, {Kind: 6}}}
		for _, s := range []api.Stmt{{Kind: k}, {Kind: 10, E: []api.Expr{e}}, {Kind: k, Name: "S", E: []api.Expr{e, e}, Body: []api.Stmt{{Kind: k}}}} {
			ret := api.Stmt{Kind: 8, E: []api.Expr{{Kind: 1}}}
			lower.Lower(api.Prog{Structs: []api.Struct{{Name: "S"}, {}}, Funcs: []api.Func{{Name: "main", Body: []api.Stmt{s, ret}}}})
		}
	}
}
