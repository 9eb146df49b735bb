package checks

import (
	"fmt"
	"math"
	"strings"
	"testing"

	"usufruct/api"
	"usufruct/show"
	"usufruct/syntax"
)

// exprOf: an expression from its text.
func exprOf(src string) api.Expr {
	e, d := syntax.Expr(scanned(src))
	if d != (api.Diag{}) {
		panic("no expression: " + src)
	}
	return e
}

func TestP301Expr(t *testing.T) {
	t.Parallel()
	for src, want := range map[string]string{
		"(x - 1) - (y - 2)":           "x - 1 - (y - 2)",
		"(x - 1) - (y * 2)":           "x - 1 - y * 2",
		"(x*1)-y%2/3":                 "x * 1 - y % 2 / 3",
		"x*(1-y)":                     "x * (1 - y)",
		"(x+1)*y":                     "(x + 1) * y",
		"x/(y*z)":                     "x / (y * z)",
		"(x/y)*z":                     "x / y * z",
		"x%(y%z)":                     "x % (y % z)",
		"x-(y+z)":                     "x - (y + z)",
		"x+(y-z)":                     "x + (y - z)",
		"x+(y+z)":                     "x + (y + z)",
		"(x+y)<(z*z)":                 "x + y < z * z",
		"(x<y)<z":                     "(x < y) < z",
		"x==(y!=z)":                   "x == (y != z)",
		"(x<=y)+(y>=z)":               "(x <= y) + (y >= z)",
		"x*(y>z)":                     "x * (y > z)",
		"-(x+y)":                      "-(x + y)",
		"-(x->y)":                     "-x->y",
		"-(-x)":                       "--x",
		"!(-x)":                       "!-x",
		"!(!(x))":                     "!!x",
		"!(x==y)":                     "!(x == y)",
		"(-x)->y":                     "(-x)->y",
		"(x+y)->z":                    "(x + y)->z",
		"(!x)*(-y)":                   "!x * -y",
		"x-(-y)":                      "x - -y",
		"(x->y)->z":                   "x->y->z",
		"f((x),(y+1))":                "f(x, y + 1)",
		"f()":                         "f()",
		"f(-x)->y":                    "f(-x)->y",
		"f((x<y))":                    "f(x < y)",
		"(new S)->y":                  "new S->y",
		"null==( new   S )":           "null == new S",
		"(get())+(7)":                 "get() + 7",
		"2147483647":                  "2147483647",
		"((((x))))":                   "x",
		"a+b*c-d/e%f":                 "a + b * c - d / e % f",
		"(a*b)*(c*d)":                 "a * b * (c * d)",
		"(a+b)-(c+d)<(e==f)":          "a + b - (c + d) < (e == f)",
		"-f(a+b, -(c), !(d<e))->g":    "-f(a + b, -c, !(d < e))->g",
		"(a->b+c)->d":                 "(a->b + c)->d",
		"(a<b)->d":                    "(a < b)->d",
		"(-a)*b":                      "-a * b",
		"-(a*b)":                      "-(a * b)",
		"(a*b)<(c<d)":                 "a * b < (c < d)",
		"(a>b)==c":                    "(a > b) == c",
		"f(g(h(x)),null,new T,get())": "f(g(h(x)), null, new T, get())",
	} {
		is(t, src, show.Expr(exprOf(src)), want)
	}
	is(t, "int", show.Type(api.Type{}), "int")
	is(t, "a pointer", show.Type(api.Type{Ptr: true, To: "S"}), "S *")
}

func TestP302Stmt(t *testing.T) {
	t.Parallel()
	src := `int f() { int x=1; S*y=null; x=y->a; y->b->c=x+1; if(x){put(x);}else{free(y);while(-x){break;continue;}} if(x){}else{} f(x , y); return x; }`
	p, d := syntax.Text(src)
	is(t, "diag", d, api.Diag{})
	want := []string{
		"  int x = 1;\n",
		"  S * y = null;\n",
		"  x = y->a;\n",
		"  y->b->c = x + 1;\n",
		"  if (x) {\n    put(x);\n  } else {\n    free(y);\n    while (-x) {\n      break;\n      continue;\n    }\n  }\n",
		"  if (x) {\n  }\n",
		"  f(x, y);\n",
		"  return x;\n",
	}
	for i, s := range p.Funcs[0].Body {
		is(t, src, show.Stmt(s, 1), want[i])
		is(t, "without an indent", show.Stmt(s, 0), strings.ReplaceAll(strings.TrimPrefix(want[i], "  "), "\n  ", "\n"))
		is(t, "deeper", show.Stmt(s, 3), "    "+strings.TrimSuffix(strings.ReplaceAll(want[i], "\n", "\n    "), "    "))
	}
}

func TestP303Prog(t *testing.T) {
	t.Parallel()
	src := "int main(){return 7;} struct T{}; S*f(int a,S*b){return b;} struct S{int v;S*n;};"
	p, _ := syntax.Text(src)
	want := `struct T {
};
struct S {
  int v;
  S * n;
};
int main() {
  return 7;
}
S * f(int a, S * b) {
  return b;
}
`
	is(t, src, show.Prog(p), want)
	is(t, "nothing", show.Prog(api.Prog{}), "")
	all := strings.Split(strings.TrimSuffix(want, "\n"), "\n")
	for n := range len(all) + 1 {
		var got []string
		for l := range show.Lines(p) {
			got = append(got, l)
			if len(got) == n {
				break
			}
		}
		if n == 0 {
			is(t, "all lines", strings.Join(got, "\n"), strings.Join(all, "\n"))
		} else {
			is(t, "some lines", strings.Join(got, "\n"), strings.Join(all[:n], "\n"))
		}
	}
}

// shownExpr: an expression's text in another way: what binds less than its place asks stands in brackets.
func shownExpr(e api.Expr, tight int) string {
	s := ""
	switch e.Kind {
	case 1:
		s = fmt.Sprint(e.N)
	case 2:
		s = e.Name
	case 3:
		s = shownExpr(e.Kids[0], 5) + "->" + e.Name
	case 4:
		b := binds(e)
		left := b
		if b == 1 {
			left = 2
		}
		s = shownExpr(e.Kids[0], left) + " " + e.Op + " " + shownExpr(e.Kids[1], b+1)
	case 5:
		s = e.Op + shownExpr(e.Kids[0], 4)
	case 6:
		s = "null"
	case 7:
		s = "new " + e.Name
	case 8:
		s = "get()"
	case 9:
		var kids []string
		for _, k := range e.Kids {
			kids = append(kids, shownExpr(k, 0))
		}
		s = e.Name + "(" + strings.Join(kids, ", ") + ")"
	}
	if binds(e) < tight {
		return "(" + s + ")"
	}
	return s
}

func shownList(l []api.Stmt, pad string) string {
	s := ""
	kind := func(t api.Type) string {
		if t.Ptr {
			return t.To + " *"
		}
		return "int"
	}
	for _, x := range l {
		var e []string
		for _, y := range x.E {
			e = append(e, shownExpr(y, 0))
		}
		s += pad
		switch x.Kind {
		case 1:
			s += kind(x.T) + " " + x.Name + " = " + e[0] + ";\n"
		case 2:
			s += x.Name + " = " + e[0] + ";\n"
		case 3:
			s += e[0] + "->" + x.Name + " = " + e[1] + ";\n"
		case 4, 5:
			s += []string{"if", "while"}[x.Kind-4] + " (" + e[0] + ") {\n" + shownList(x.Body, pad+"  ") + pad + "}"
			if len(x.Else) > 0 {
				s += " else {\n" + shownList(x.Else, pad+"  ") + pad + "}"
			}
			s += "\n"
		case 6, 7:
			s += []string{"break", "continue"}[x.Kind-6] + ";\n"
		case 8:
			s += "return " + e[0] + ";\n"
		case 9:
			s += "free(" + x.Name + ");\n"
		case 10:
			s += "put(" + e[0] + ");\n"
		case 11:
			s += e[0] + ";\n"
		}
	}
	return s
}

func TestP301Chance(t *testing.T) {
	t.Parallel()
	for seed := range uint64(3000) {
		e := wild{dice(seed)}.expr(5)
		is(t, "shown", show.Expr(e), shownExpr(e, 0))
	}
	for seed := range uint64(500) {
		for _, s := range (wild{dice(seed)}).list(3) {
			is(t, "shown", show.Stmt(s, 2), shownList([]api.Stmt{s}, "    "))
		}
	}
}

func TestP304Again(t *testing.T) {
	t.Parallel()
	for seed := range uint64(1500) {
		r := dice(seed)
		p := wild{r}.prog()
		text := show.Prog(p)
		q, d := syntax.Text(text)
		is(t, text, d, api.Diag{})
		must(t, "parsed to the same: "+text, syntax.Same(p, q))
		is(t, "shown again", show.Prog(q), text)
		lines := ""
		for l := range show.Lines(p) {
			must(t, "a line without a newline", !strings.Contains(l, "\n"))
			lines += l + "\n"
		}
		is(t, "lines", lines, text)
	}
	p, _ := syntax.Text("int main() { if (1) { } else { } return 1; }")
	p.Funcs[0].Body[0].Else = []api.Stmt{}
	is(t, "an Else without a statement", show.Prog(p), "int main() {\n  if (1) {\n  }\n  return 1;\n}\n")
}

func TestP304Other(t *testing.T) {
	t.Parallel()
	// Of what no parser makes nothing is promised but an end; nor of what is longer than all that is told.
	show.Stmt(api.Stmt{Kind: 6}, math.MaxInt)
	show.Stmt(api.Stmt{Kind: 6}, math.MinInt)
	for k := -1; k < 14; k++ {
		show.Expr(api.Expr{Kind: k})
		show.Stmt(api.Stmt{Kind: k}, -3)
		show.Prog(api.Prog{Funcs: []api.Func{{Body: []api.Stmt{{Kind: k, E: []api.Expr{{Kind: k, Kids: []api.Expr{{Kind: k}}}}}}}}})
	}
}
