package checks

import (
	"fmt"
	"strings"
	"testing"

	"usufruct/api"
	"usufruct/names"
	"usufruct/syntax"
	"usufruct/token"
)

// prog: a program from its text.
func prog(src string) api.Prog {
	p, d := syntax.Text(src)
	if d != (api.Diag{}) {
		panic(fmt.Sprint("no program: ", d, " ", src))
	}
	return p
}

func TestP401(t *testing.T) {
	t.Parallel()
	p := prog("struct S { int a; T * b; int a; }; struct T { S * a; }; struct S { int c; }; int f() { return 1; } S * g() { return null; } int f(int a) { return 2; }")
	is(t, "Struct", fmt.Sprint(names.Struct(p, "S"), names.Struct(p, "T"), names.Struct(p, "U"), names.Struct(p, ""), names.Struct(api.Prog{}, "S")), "0 1 -1 -1 -1")
	is(t, "Func", fmt.Sprint(names.Func(p, "f"), names.Func(p, "g"), names.Func(p, "main"), names.Func(p, "")), "0 1 -1 -1")
	for _, c := range []struct{ s, name, want string }{
		{"S", "a", "0 {false } true"}, {"S", "b", "1 {true T} true"}, {"T", "a", "0 {true S} true"},
		{"S", "c", "0 {false } false"}, {"U", "a", "0 {false } false"}, {"T", "b", "0 {false } false"}, {"", "", "0 {false } false"},
	} {
		n, k, is1 := names.Field(p, c.s, c.name)
		is(t, "Field "+c.s+" "+c.name, fmt.Sprint(n, k, is1), c.want)
	}
}

func TestP401Fits(t *testing.T) {
	t.Parallel()
	null := api.Type{Ptr: true}
	for _, c := range []struct {
		want, got api.Type
		fits      bool
	}{
		{number(), number(), true}, {to("S"), to("S"), true}, {to("S"), to("T"), false}, {to("S"), null, true}, {null, to("S"), false},
		{null, null, true}, {number(), null, false}, {null, number(), false}, {number(), to("S"), false}, {to("S"), number(), false},
	} {
		is(t, fmt.Sprint("Fits ", c.want, c.got), names.Fits(c.want, c.got), c.fits)
	}
}

func TestP401Ends(t *testing.T) {
	t.Parallel()
	for src, want := range map[string]bool{
		"": false, "return 1;": true, "while (1) { break; }": false, "while (1) { return 1; }": false, "put(1);": false, "put(1); return 1;": true,
		"if (1) { return 1; }": false, "if (1) { return 1; } else { return 2; }": true, "if (1) { return 1; } else { }": false,
		"if (1) { } else { return 1; }": false, "if (1) { return 1; } else { put(1); }": false, "return 1; put(1);": true,
		"if (1) { if (2) { return 1; } else { return 2; } } else { put(1); return 3; }": true,
		"if (1) { if (2) { return 1; } } else { return 3; }":                            false,
		"x = 1;": false, "int x = 1;": false, "x->y = 1;": false, "free(x);": false, "f();": false,
		"while (1) { } if (1) { return 1; } else { return 2; }": true,
		"break;": true, "continue;": true, "if (1) { break; } else { continue; }": true, "put(1); break; put(2);": true,
	} {
		is(t, src, names.Ends(prog("int f() { " + src + " }").Funcs[0].Body), want)
	}
}

// In what follows, a | stands where something is wrong; it is taken out.
func checkedAt(t *testing.T, what api.Fault, src string) {
	t.Helper()
	at := strings.Index(src, "|")
	src = strings.Replace(src, "|", "", 1)
	want := diag(4, what, strings.Count(src[:at], "\n")+1, at-strings.LastIndex(src[:at], "\n"))
	is(t, src, names.Check(prog(src)), want)
}

func checked(t *testing.T, src string) {
	t.Helper()
	is(t, src, names.Check(prog(src)), api.Diag{})
}

const mainText = "int main() { return 0; } "

func TestP402Heads(t *testing.T) {
	t.Parallel()
	checked(t, mainText)
	checked(t, "struct S { T * a; S * b; int c; }; struct T { int a; }; "+mainText)
	checkedAt(t, api.Twice, mainText+"struct S { }; struct T { }; |struct S { };")
	checkedAt(t, api.Twice, mainText+"struct S { int a; int b; S * |a; };")
	checkedAt(t, api.Unknown, mainText+"struct S { int a; U * |b; };")
	checkedAt(t, api.Unknown, mainText+"struct S { int a; f * |b; };")
	checkedAt(t, api.Twice, mainText+"struct S { int a; U * |a; };")
	checkedAt(t, api.Unknown, mainText+"struct S { U * |b; }; struct S { };")
	checkedAt(t, api.Twice, mainText+"struct S { }; |struct S { U * b; };")
	checkedAt(t, api.Twice, mainText+"int f() { return x; } |int f() { return 0; }")
	checkedAt(t, api.Twice, mainText+"int f(U * a) { return x; } int g() { y = 1; } |int main() { return 0; }")
	checkedAt(t, api.Unknown, mainText+"int f(int a, U * |b) { return x; }")
	checkedAt(t, api.Twice, mainText+"int f(int a, int b, int |a) { return x; }")
	checkedAt(t, api.Unknown, mainText+"int f(int a, U * |a) { return x; }")
	checkedAt(t, api.Unknown, mainText+"|U * f(int a) { return x; }")
	checkedAt(t, api.Twice, mainText+"U * f(int a, int |a) { return x; }")
	checkedAt(t, api.NoReturn, mainText+"|int f() { }")
	checkedAt(t, api.NoReturn, mainText+"|int f(int a) { while (1) { return 1; } }")
	checkedAt(t, api.NoReturn, mainText+"|int f(int a) { if (a) { return 1; } }")
	checked(t, mainText+"int f(int f, int main) { if (f) { return 1; } else { return main; } }")
	checked(t, "struct main { main * main; }; main * f(main * f) { return f; } "+mainText)
	for _, src := range []string{"", "struct S { };", "int f() { return 0; }", "int main(int a) { return 0; }", "struct S { }; S * main() { return null; }", "int Main() { return 0; }"} {
		is(t, src, names.Check(prog("\n\n"+src)), diag(4, api.NoMain, 1, 1))
	}
	checkedAt(t, api.Unknown, "int main(int a) { return |x; }")
	checkedAt(t, api.Unknown, "int f() { return |x; } int main(int a) { return 0; }")
}

func TestP402Many(t *testing.T) {
	t.Parallel()
	structs := func(n int) string {
		s := ""
		for i := range n {
			s += fmt.Sprintf("struct S%d { S%d * a; };\n", i, i)
		}
		return s
	}
	funcs := func(n int) string {
		s := ""
		for i := range n {
			s += fmt.Sprintf("int f%d() { return f%d(); }\n", i, n-1-i)
		}
		return s
	}
	checked(t, structs(30)+mainText)
	is(t, "30 structs, and what is wrong behind", names.Check(prog(structs(30)+"int main() { return x; }")), diag(4, api.Unknown, 31, 21))
	is(t, "31 structs", names.Check(prog("struct S0 { U * a; }; "+structs(31)+mainText)), diag(4, api.TooLarge, 30, 1))
	is(t, "32 structs", names.Check(prog(structs(32)+mainText)), diag(4, api.TooLarge, 31, 1))
	checked(t, funcs(59)+mainText)
	is(t, "60 functions, and what is wrong behind", names.Check(prog(funcs(59)+"int main() { return x; }")), diag(4, api.Unknown, 60, 21))
	is(t, "61 functions", names.Check(prog(funcs(60)+mainText)), diag(4, api.TooLarge, 61, 1))
	is(t, "62 functions", names.Check(prog(mainText+"int main() { return x; }\n"+funcs(60))), diag(4, api.TooLarge, 60, 1))
	is(t, "61 functions, and a struct that is wrong", names.Check(prog(funcs(60)+mainText+"\nstruct S { U * a; };")), diag(4, api.Unknown, 62, 16))
}

func TestP402Statements(t *testing.T) {
	t.Parallel()
	in := func(s string) string {
		return "struct S { int v; S * n; T * o; }; struct T { int v; }; T * g(S * a, int b) { return null; }\nint main() { int i = 1; S * s = new S; T * t = null; " + s + " return 0; }"
	}
	for _, s := range []string{
		"i = i + s->n->v;", "s = null; s = s->n; t = g(s, 1);", "s->v = 1; s->n = null; s->n = s; s->o = new T; s->n->o->v = i;", "if (i) { } else { }",
		"while (i) { break; }", "while (i) { if (i) { continue; } else { break; } }", "free(s); free(t);", "put(i); put(g(s, i)->v);", "g(null, 1);", "return 1 - 2;",
		"int j = i; if (i) { int k = j; int l = k; } int k = 1; int l = 2;", "i = s == null; i = null != t; i = null == null; i = 1 == 2; i = i != i;",
		"i = -i; i = !i; i = get(); i = (i < 1) + (i >= 2) * (i % 3);", "i = new S == null; i = null != g(s, 1);", "while (1) { int k = 1; } while (2) { int k = 1; }",
		"while (1) { while (2) { break; } continue; }", "if (1) { int x = 1; } else { int x = 2; }", "int g = g(s, 1)->v; int S = g;", "i = (null == s) + (s == null);",
	} {
		checked(t, strings.Replace(in(s), "return 1 - 2; return 0;", "return 1 - 2;", 1))
	}
	for s, f := range map[string]api.Fault{
		"return 1; |put(1);": api.Odd, "while (1) { break; |put(x); }": api.Odd, "while (1) { continue; |break; }": api.Odd,
		"if (1) { return 1; } else { return 2; } |put(x);": api.Odd, "if (1) { return 1; |return 2; }": api.Odd, "while (1) { if (1) { break; } else { continue; } |i = 1; }": api.Odd,
		"|U * x = y;": api.Unknown, "int x = |y;": api.Unknown, "int x = |x;": api.Unknown, "int i = |s;": api.Mistyped, "S * x = |t;": api.Mistyped,
		"S * x = |1;": api.Mistyped, "int x = |null;": api.Mistyped, "|int i = 1;": api.Twice, "int x = 1; if (i) { |int x = 2; }": api.Twice, "|T * s = null;": api.Twice,
		"|x = y;": api.Unknown, "i = |y;": api.Unknown, "i = |s;": api.Mistyped, "s = |t;": api.Mistyped, "i = |null;": api.Mistyped, "s = |0;": api.Mistyped,
		"if (1) { int x = 1; } |x = 1;": api.Unknown, "while (1) { int x = 1; } |x = 1;": api.Unknown, "if (1) { int x = 1; } else { |x = 1; }": api.Unknown,
		"|x->v = y;": api.Unknown, "|i->v = y;": api.Mistyped, "s|->v->n = y;": api.Mistyped, "|s->x = y;": api.Unknown, "|s->n->x = y;": api.Unknown, "s->v = |y;": api.Unknown,
		"s->v = |s;": api.Mistyped, "s->n = |t;": api.Mistyped, "s->n = |1;": api.Mistyped, "s->v = |null;": api.Mistyped, "s->o = |s;": api.Mistyped, "|t->n = y;": api.Unknown,
		"if (|x) { y = 1; }": api.Unknown, "if (|s) { y = 1; }": api.Mistyped, "if (|null) { }": api.Mistyped, "if (1) { |x = 1; } else { y = 1; }": api.Unknown,
		"if (1) { } else { |y = 1; }": api.Unknown, "while (|s) { y = 1; }": api.Mistyped, "while (|x) { }": api.Unknown, "while (1) { |x = 1; }": api.Unknown,
		"|break;": api.Odd, "|continue;": api.Odd, "if (1) { |break; }": api.Odd, "while (1) { } |break;": api.Odd, "return |s;": api.Mistyped, "return |null;": api.Mistyped,
		"return |x;": api.Unknown, "|free(x);": api.Unknown, "|free(i);": api.Mistyped, "put(|s);": api.Mistyped, "put(|x);": api.Unknown, "put(|null);": api.Mistyped,
		"|f();": api.Unknown, "|g();": api.Mistyped, "|g(x);": api.Mistyped, "g(|x, y);": api.Unknown, "g(s, |s);": api.Mistyped, "g(|1, x);": api.Mistyped, "|g(s, 1, 2);": api.Mistyped,
		"g(|t, 1);": api.Mistyped, "g(s, |null);": api.Mistyped,
	} {
		checkedAt(t, f, in(s))
	}
}

func TestP402Expressions(t *testing.T) {
	t.Parallel()
	in := func(s string) string {
		return "struct S { int v; S * n; T * o; }; struct T { int v; }; T * g(S * a, int b) { return null; }\nint main() { int i = 1; S * s = new S; T * t = null; i = " + s + "; return 0; }"
	}
	for _, c := range []struct {
		src  string
		what api.Fault
	}{
		{"|x + y", api.Unknown}, {"|x->v", api.Unknown}, {"i|->v", api.Mistyped}, {"null|->v", api.Mistyped}, {"s|->x", api.Unknown}, {"s->n|->x", api.Unknown}, {"t|->n", api.Unknown},
		{"s->v|->v", api.Mistyped}, {"get()|->v", api.Mistyped}, {"i + |x", api.Unknown}, {"i |+ s", api.Mistyped}, {"s |+ i", api.Mistyped}, {"s + |x", api.Unknown},
		{"i |== s", api.Mistyped}, {"s |== s", api.Mistyped}, {"s |!= t", api.Mistyped}, {"i |== null", api.Mistyped}, {"null |!= i", api.Mistyped}, {"null |< s", api.Mistyped},
		{"s |>= null", api.Mistyped}, {"null |+ null", api.Mistyped}, {"null |< null", api.Mistyped}, {"s |- null", api.Mistyped}, {"|-s", api.Mistyped}, {"|!null", api.Mistyped}, {"-|x", api.Unknown},
		{"|!s", api.Mistyped}, {"|new U == null", api.Unknown}, {"|new g == null", api.Unknown}, {"|f(x)", api.Unknown}, {"|S(x)", api.Unknown}, {"|g(x)", api.Mistyped}, {"|g(s, 1, x)->v", api.Mistyped},
		{"g(|x, y)->v", api.Unknown}, {"g(s, |s)->v", api.Mistyped}, {"g(|i, x)->v", api.Mistyped}, {"|g(s, 1)", api.Mistyped}, {"g(null, |null)->v", api.Mistyped}, {"g(new S, -(1 |% s))->v", api.Mistyped},
		{"|s", api.Mistyped}, {"|null", api.Mistyped}, {"|new S", api.Mistyped}, {"s|->n", api.Mistyped}, {"1 |* null", api.Mistyped}, {"(s == null) |== null", api.Mistyped},
	} {
		checkedAt(t, c.what, in(c.src))
	}
}

// checker: another way to check; it tells what is wrong as text.
type nameChecker struct {
	p    api.Prog
	ret  api.Type
	loop int
}

func (c nameChecker) wrong(f api.Fault, at api.Pos) { panic(api.Diag{Stage: 4, What: f, At: at}) }

func (c nameChecker) is(holds bool, f api.Fault, at api.Pos) {
	if !holds {
		c.wrong(f, at)
	}
}

func (c nameChecker) structure(t api.Type) *api.Struct {
	for i := range c.p.Structs {
		if t.Ptr && c.p.Structs[i].Name == t.To {
			return &c.p.Structs[i]
		}
	}
	return nil
}

func (c nameChecker) known(t api.Type, at api.Pos) {
	c.is(!t.Ptr || c.structure(t) != nil, api.Unknown, at)
}

func (c nameChecker) field(t api.Type, name string, bad, at api.Pos) api.Type {
	s := c.structure(t)
	c.is(s != nil, api.Mistyped, bad)
	for _, f := range s.Fields {
		if f.Name == name {
			return f.T
		}
	}
	c.wrong(api.Unknown, at)
	return api.Type{}
}

func (c nameChecker) fit(e api.Expr, want api.Type, seen []api.Field) {
	got := c.expr(e, seen)
	c.is(got == want || e.Kind == 6 && want.Ptr, api.Mistyped, e.At)
}

func find(l []api.Field, name string) *api.Field {
	for i := range l {
		if l[i].Name == name {
			return &l[i]
		}
	}
	return nil
}

func (c nameChecker) expr(e api.Expr, seen []api.Field) api.Type {
	switch e.Kind {
	case 2:
		v := find(seen, e.Name)
		c.is(v != nil, api.Unknown, e.At)
		return v.T
	case 3:
		return c.field(c.expr(e.Kids[0], seen), e.Name, e.At, e.At)
	case 4:
		a, b := c.expr(e.Kids[0], seen), c.expr(e.Kids[1], seen)
		if a.Ptr || b.Ptr {
			null := e.Kids[0].Kind == 6 || e.Kids[1].Kind == 6
			c.is(a.Ptr && b.Ptr && null && (e.Op == "==" || e.Op == "!="), api.Mistyped, e.At)
		}
	case 5:
		c.is(!c.expr(e.Kids[0], seen).Ptr, api.Mistyped, e.At)
	case 6:
		return api.Type{Ptr: true}
	case 7:
		c.known(to(e.Name), e.At)
		return to(e.Name)
	case 9:
		for _, f := range c.p.Funcs {
			if f.Name == e.Name {
				c.is(len(f.Params) == len(e.Kids), api.Mistyped, e.At)
				for i, k := range e.Kids {
					c.fit(k, f.Params[i].T, seen)
				}
				return f.Ret
			}
		}
		c.wrong(api.Unknown, e.At)
	}
	return api.Type{}
}

func (c nameChecker) list(l []api.Stmt, seen []api.Field) {
	seen = append([]api.Field{}, seen...)
	for i, s := range l {
		c.is(i == 0 || !endsAgain(l[i-1]), api.Odd, s.At)
		switch s.Kind {
		case 1:
			c.known(s.T, s.At)
			c.fit(s.E[0], s.T, seen)
			c.is(find(seen, s.Name) == nil, api.Twice, s.At)
			seen = append(seen, api.Field{Name: s.Name, T: s.T})
		case 2:
			v := find(seen, s.Name)
			c.is(v != nil, api.Unknown, s.At)
			c.fit(s.E[0], v.T, seen)
		case 3:
			c.fit(s.E[1], c.field(c.expr(s.E[0], seen), s.Name, s.E[0].At, s.At), seen)
		case 4, 5:
			c.fit(s.E[0], number(), seen)
			d := c
			d.loop += s.Kind - 4
			d.list(s.Body, seen)
			d.list(s.Else, seen)
		case 6, 7:
			c.is(c.loop > 0, api.Odd, s.At)
		case 8:
			c.fit(s.E[0], c.ret, seen)
		case 9:
			v := find(seen, s.Name)
			c.is(v != nil, api.Unknown, s.At)
			c.is(v.T.Ptr, api.Mistyped, s.At)
		case 10:
			c.fit(s.E[0], number(), seen)
		case 11:
			c.expr(s.E[0], seen)
		}
	}
}

// namesAgain: what is wrong with names and types, found in another way.
func namesAgain(p api.Prog) (d api.Diag) {
	defer func() {
		if w, is := recover().(api.Diag); is {
			d = w
		}
	}()
	c := nameChecker{p: p}
	for i, s := range p.Structs {
		for _, o := range p.Structs[:i] {
			c.is(o.Name != s.Name, api.Twice, s.At)
		}
		for k, f := range s.Fields {
			c.is(find(s.Fields[:k], f.Name) == nil, api.Twice, f.At)
			c.known(f.T, f.At)
		}
	}
	for i, f := range p.Funcs {
		for _, o := range p.Funcs[:i] {
			c.is(o.Name != f.Name, api.Twice, f.At)
		}
	}
	main := false
	for _, f := range p.Funcs {
		for k, q := range f.Params {
			c.known(q.T, q.At)
			c.is(find(f.Params[:k], q.Name) == nil, api.Twice, q.At)
		}
		c.known(f.Ret, f.At)
		c.ret = f.Ret
		c.list(f.Body, f.Params)
		c.is(len(f.Body) > 0 && endsAgain(f.Body[len(f.Body)-1]), api.NoReturn, f.At)
		main = main || f.Name == "main" && len(f.Params) == 0 && !f.Ret.Ptr
	}
	c.is(main, api.NoMain, api.Pos{Line: 1, Col: 1})
	return api.Diag{}
}

func TestP402Chance(t *testing.T) {
	t.Parallel()
	found := map[api.Fault]int{}
	for seed := range uint64(4000) {
		r := dice(seed)
		p := sanely(seed)
		l := &layout{r: r}
		l.prog(&p)
		words := l.texts
		is(t, strings.Join(words, " "), names.Check(prog(strings.Join(words, "\n"))), api.Diag{})
		for range 1 + r.IntN(2) {
			i, k := r.IntN(len(words)), r.IntN(len(words))
			for token.Name(words[i]) && !token.Name(words[k]) {
				k = r.IntN(len(words))
			}
			if r.IntN(3) == 0 {
				words[i] = pick(r, []string{"q", "v", "S", "T", "null", "1", "v1", "p0", "f0", "break"})
			} else {
				words[i] = words[k]
			}
		}
		q, d := syntax.Text(strings.Join(words, "\n"))
		if d != (api.Diag{}) {
			continue
		}
		want := namesAgain(q)
		found[want.What]++
		is(t, strings.Join(words, " "), names.Check(q), want)
	}
	for _, f := range []api.Fault{api.OK, api.Unknown, api.Twice, api.Mistyped} {
		must(t, fmt.Sprint("some of fault ", f, found), found[f] > 20)
	}
	for seed := range uint64(500) {
		p := wild{dice(seed)}.prog()
		is(t, "wild", names.Check(p), namesAgain(p))
	}
}

func TestP402Other(t *testing.T) {
	t.Parallel()
	// Of what no parser makes nothing is promised but an end.
	for k := -1; k < 14; k++ {
		e := api.Expr{Kind: k, Kids: []api.Expr{{Kind: k}}}
		for _, s := range []api.Stmt{{Kind: k}, {Kind: 10, E: []api.Expr{e}}, {Kind: k, E: []api.Expr{e}, Body: []api.Stmt{{Kind: k}}}} {
			names.Check(api.Prog{Funcs: []api.Func{{Name: "main", Body: []api.Stmt{s}}}})
		}
	}
}
