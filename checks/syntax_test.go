package checks

import (
	"fmt"
	"strconv"
	"strings"
	"testing"

	"usufruct/api"
	"usufruct/syntax"
	"usufruct/token"
)

// scanned: the tokens of a text that is right.
func scanned(src string) []api.Token {
	l, d := token.Scan(src)
	if d != (api.Diag{}) {
		panic("no tokens: " + src)
	}
	return l
}

// shape: an expression with all brackets.
func shape(e api.Expr) string {
	kids := ""
	for _, k := range e.Kids {
		kids += " " + shape(k)
	}
	return fmt.Sprintf("(%d %d %s%s%s)", e.Kind, e.N, e.Name, e.Op, kids)
}

func TestP201Expr(t *testing.T) {
	t.Parallel()
	for _, c := range []struct{ src, want string }{
		{"x - 1 - y->f", "(4 0 - (4 0 - (2 0 x) (1 1 )) (3 0 f (2 0 y)))"},
		{"a + b * c < d % e / f", "(4 0 < (4 0 + (2 0 a) (4 0 * (2 0 b) (2 0 c))) (4 0 / (4 0 % (2 0 d) (2 0 e)) (2 0 f)))"},
		{"-!a->b->c * -1", "(4 0 * (5 0 - (5 0 ! (3 0 c (3 0 b (2 0 a))))) (5 0 - (1 1 )))"},
		{"f(a, new S, null, get())->n", "(3 0 n (9 0 f (2 0 a) (7 0 S) (6 0 ) (8 0 )))"},
		{"(a < b) == ((c))", "(4 0 == (4 0 < (2 0 a) (2 0 b)) (2 0 c))"},
		{"a - (b - c)", "(4 0 - (2 0 a) (4 0 - (2 0 b) (2 0 c)))"},
		{"f() != f(g())", "(4 0 != (9 0 f) (9 0 f (9 0 g)))"},
		{"2147483647", "(1 2147483647 )"},
	} {
		e, d := syntax.Expr(scanned(c.src))
		is(t, c.src, shape(e), c.want)
		is(t, c.src, d, api.Diag{})
	}
	e, _ := syntax.Expr(scanned("(a)->b +\n -f(x)"))
	is(t, "places", fmt.Sprint(e.At, e.Kids[0].At, e.Kids[0].Kids[0].At, e.Kids[1].At, e.Kids[1].Kids[0].At, e.Kids[1].Kids[0].Kids[0].At), "{1 8} {1 4} {1 2} {2 2} {2 3} {2 5}")
	for _, c := range []struct {
		src string
		col int
	}{
		{"", 1}, {"a b", 3}, {"a < b < c", 7}, {"a +", 4}, {"(a", 3}, {"f(a,)", 5}, {"f(,a)", 3}, {"a->1", 4}, {"get(1)", 5}, {"get", 4},
		{"new 1", 5}, {"int", 1}, {"a)", 2}, {"1->", 4}, {"-", 2}, {"*a", 1}, {"f(a b)", 5}, {"a->b(c)", 5}, {"a == = b", 6}, {"{", 1}, {"free", 1},
	} {
		e, d := syntax.Expr(scanned(c.src))
		is(t, strconv.Quote(c.src), d, diag(2, api.Odd, 1, c.col))
		equal(t, strconv.Quote(c.src), e, api.Expr{})
	}
}

func TestP201BadArg(t *testing.T) {
	t.Parallel()
	end := api.Token{Kind: 5, At: api.Pos{Line: 3, Col: 4}}
	one := api.Token{Kind: 3, Text: "1", N: 1, At: api.Pos{Line: 1, Col: 1}}
	for i, l := range [][]api.Token{nil, {}, {one}, {end, one}, {end, end}, {one, end, end}, {one, end, one, end}} {
		p, d := syntax.Parse(l)
		is(t, "Parse "+strconv.Itoa(i), fmt.Sprint(d.What, d.At), fmt.Sprint(api.BadArg, api.Pos{}))
		equal(t, "Parse "+strconv.Itoa(i), p, api.Prog{})
		e, d := syntax.Expr(l)
		is(t, "Expr "+strconv.Itoa(i), fmt.Sprint(d.What, d.At), fmt.Sprint(api.BadArg, api.Pos{}))
		equal(t, "Expr "+strconv.Itoa(i), e, api.Expr{})
	}
	_, d := syntax.Parse([]api.Token{one, end})
	is(t, "one and the end", d, diag(2, api.Odd, 1, 1))
	p, d := syntax.Parse([]api.Token{end})
	is(t, "the end alone", d, api.Diag{})
	equal(t, "the end alone", p, api.Prog{})
	_, d = syntax.Expr([]api.Token{end})
	is(t, "no expression", d, diag(2, api.Odd, 3, 4))
}

// kinds: tokens by kinds and texts: kind:text.
func kinds(s string) []api.Token {
	var l []api.Token
	for i, w := range strings.Fields(s) {
		k, text, _ := strings.Cut(w, ":")
		n, _ := strconv.Atoi(k)
		l = append(l, api.Token{Kind: n, Text: text, N: int64(i), At: api.Pos{Line: 1, Col: i + 1}})
	}
	return append(l, api.Token{Kind: 5, At: api.Pos{Line: 2, Col: 1}})
}

func TestP201Kinds(t *testing.T) {
	t.Parallel()
	// Words and signs are told by their texts, whether of Kind 2 or 4.
	const head = "4:int 1:main 2:( 4:) 2:{ "
	p, d := syntax.Parse(kinds(head + "4:return 3:zz 2:; 4:}"))
	is(t, "kinds exchanged", d, api.Diag{})
	is(t, "a number is its N", p.Funcs[0].Body[0].E[0].N, 6)
	for _, c := range []struct {
		src  string
		want api.Diag
	}{
		{head + "1:S 4:* 1:x 2:= 4:null 2:; 2:}", api.Diag{}},
		{head + "1:S 2:* 1:x 2:= 4:null 2:; 2:}", diag(2, api.Odd, 1, 7)},
		{head + "1:S 1:* 1:x 2:= 4:null 2:; 2:}", diag(2, api.Odd, 1, 7)},
		{"1:S 2:* 1:f 4:( 1:S 2:* 1:a 4:) 4:{ 4:}", api.Diag{}},
		{"4:struct 1:S 4:{ 1:S 2:* 1:a 4:; 4:} 4:;", api.Diag{}},
		{"1:int 1:f 4:( 4:) 4:{ 4:}", diag(2, api.Odd, 1, 2)},
		{"3:int 1:f 4:( 4:) 4:{ 4:}", diag(2, api.Odd, 1, 1)},
		{"2:int 2:f 4:( 4:) 4:{ 4:}", diag(2, api.Odd, 1, 2)},
		{"2:int 1:f 4:( 4:) 1:{ 4:}", diag(2, api.Odd, 1, 5)},
		{"0:int 1:f", diag(2, api.Odd, 1, 1)},
		{"-1:int", diag(2, api.Odd, 1, 1)},
		{"2:int 1: 4:( 4:) 4:{ 4:}", api.Diag{}},
	} {
		_, d := syntax.Parse(kinds(c.src))
		is(t, c.src, d, c.want)
	}
}

func TestP201Stmts(t *testing.T) {
	t.Parallel()
	src := `struct S { int v; S * n; };
int f(int a, S * b) {
  int x = a;
  S * y = null;
  x = 1;
  b->n->v = 2; b->v = 3;
  if (x) { put(x); } else { free(b); }
  if (x) { } else { }
  while (x) { break; continue; }
  f(1, b);
  return x;
}`
	p, d := syntax.Text(src)
	is(t, "diag", d, api.Diag{})
	var got []string
	var look func(l []api.Stmt)
	look = func(l []api.Stmt) {
		for _, s := range l {
			line := fmt.Sprintf("%d %v %s %v %d %d", s.Kind, s.T, s.Name, s.At, len(s.Body), len(s.Else))
			for _, e := range s.E {
				line += " " + shape(e) + fmt.Sprint(e.At)
			}
			got = append(got, line)
			look(s.Body)
			look(s.Else)
		}
	}
	look(p.Funcs[0].Body)
	is(t, "statements", strings.Join(got, "\n"), `1 {false } x {3 3} 0 0 (2 0 a){3 11}
1 {true S} y {4 3} 0 0 (6 0 ){4 11}
2 {false } x {5 3} 0 0 (1 1 ){5 7}
3 {false } v {6 3} 0 0 (3 0 n (2 0 b)){6 4} (1 2 ){6 13}
3 {false } v {6 16} 0 0 (2 0 b){6 16} (1 3 ){6 23}
4 {false }  {7 3} 1 1 (2 0 x){7 7}
10 {false }  {7 12} 0 0 (2 0 x){7 16}
9 {false } b {7 29} 0 0
4 {false }  {8 3} 0 0 (2 0 x){8 7}
5 {false }  {9 3} 2 0 (2 0 x){9 10}
6 {false }  {9 15} 0 0
7 {false }  {9 22} 0 0
11 {false }  {10 3} 0 0 (9 0 f (1 1 ) (2 0 b)){10 3}
8 {false }  {11 3} 0 0 (2 0 x){11 10}`)
	is(t, "heads", fmt.Sprintf("%v %v %v %v %v", p.Structs, p.Funcs[0].Name, p.Funcs[0].Params, p.Funcs[0].Ret, p.Funcs[0].At),
		"[{S [{v {false } {1 16}} {n {true S} {1 23}}] {1 1}}] f [{a {false } {2 11}} {b {true S} {2 18}}] {false } {2 1}")
}

func TestP201Chance(t *testing.T) {
	t.Parallel()
	for seed := range uint64(2000) {
		r := dice(seed)
		want := wild{r}.prog()
		src := written(&want, r)
		got, d := syntax.Text(src)
		is(t, src, d, api.Diag{})
		equal(t, src, got, want)
	}
}

// grammar: the rules of the chapter, a way each; N, C are names and numbers, E the end.
const grammarText = `
program = parts E
parts = | record parts | func parts
record = struct N { fields } ;
fields = | type N ; fields
func = type N ( params ) block
params = | params1
params1 = type N | type N , params1
type = int | N *
block = { stmts }
stmts = | stmt stmts
stmt = type N = expr ; | N = expr ; | N arrows -> N = expr ; | if ( expr ) block | if ( expr ) block else block | while ( expr ) block | break ; | continue ; | return expr ; | free ( N ) ; | put ( expr ) ; | N ( args ) ;
arrows = | -> N arrows
args = | args1
args1 = expr | expr , args1
expr = sum | sum == sum | sum != sum | sum < sum | sum <= sum | sum > sum | sum >= sum
sum = term | sum + term | sum - term
term = unary | term * unary | term / unary | term % unary
unary = - unary | ! unary | postfix
postfix = primary | postfix -> N
primary = C | N | N ( args ) | null | new N | get ( ) | ( expr )`

type grammarItem struct{ rule, way, dot, from int }

type grammarRules struct {
	heads []string
	ways  [][][]string
	at    map[string]int
}

func rulesOf(text string) grammarRules {
	g := grammarRules{at: map[string]int{}}
	for _, line := range strings.Split(strings.TrimSpace(text), "\n") {
		head, body, _ := strings.Cut(line, " =")
		g.at[head] = len(g.heads)
		g.heads = append(g.heads, head)
		var ways [][]string
		for _, w := range strings.Split(body, " |") {
			ways = append(ways, strings.Fields(w))
		}
		g.ways = append(g.ways, ways)
	}
	return g
}

// firstOdd: the first of these words that can't stand where it stands: -1: none. (Earley's way.)
func (g grammarRules) firstOdd(words []string) int {
	sets := []map[grammarItem]bool{{}}
	for w := range g.ways[0] {
		sets[0][grammarItem{0, w, 0, 0}] = true
	}
	for i, word := range words {
		g.complete(sets, i)
		next := map[grammarItem]bool{}
		for it := range sets[i] {
			if way := g.ways[it.rule][it.way]; it.dot < len(way) && way[it.dot] == word {
				next[grammarItem{it.rule, it.way, it.dot + 1, it.from}] = true
			}
		}
		if len(next) == 0 {
			return i
		}
		sets = append(sets, next)
	}
	return -1
}

func (g grammarRules) complete(sets []map[grammarItem]bool, i int) {
	for changed := true; changed; {
		changed = false
		add := func(it grammarItem) {
			if !sets[i][it] {
				sets[i][it] = true
				changed = true
			}
		}
		var now []grammarItem
		for it := range sets[i] {
			now = append(now, it)
		}
		for _, it := range now {
			way := g.ways[it.rule][it.way]
			if it.dot < len(way) {
				if rule, is := g.at[way[it.dot]]; is {
					for w := range g.ways[rule] {
						add(grammarItem{rule, w, 0, i})
					}
				}
				continue
			}
			for back := range sets[it.from] {
				bw := g.ways[back.rule][back.way]
				if back.dot < len(bw) && bw[back.dot] == g.heads[it.rule] {
					add(grammarItem{back.rule, back.way, back.dot + 1, back.from})
				}
			}
		}
	}
}

func TestP201Odd(t *testing.T) {
	t.Parallel()
	g := rulesOf(grammarText)
	odd, right := 0, 0
	for seed := range uint64(700) {
		r := dice(seed)
		prog := wild{r}.prog()
		l := &layout{r: r}
		l.prog(&prog)
		words := l.texts
		for range r.IntN(3) {
			if len(words) == 0 {
				break
			}
			i := r.IntN(len(words))
			one := pick(r, append(append([]string{"a", "7"}, allWords...), allSigns...))
			switch r.IntN(3) {
			case 0:
				words = append(words[:i:i], words[i+1:]...)
			case 1:
				words = append(append(words[:i:i], one), words[i:]...)
			case 2:
				words = append(append(words[:i:i], one), words[i+1:]...)
			}
		}
		var classes []string
		for _, w := range words {
			switch k := scanned(w)[0].Kind; k {
			case 1:
				w = "N"
			case 3:
				w = "C"
			}
			classes = append(classes, w)
		}
		src := strings.Join(words, "\n")
		at := g.firstOdd(append(classes, "E"))
		_, d := syntax.Text(src)
		if at < 0 {
			right++
			is(t, src, d, api.Diag{})
		} else {
			odd++
			col := 1
			if at == len(words) && at > 0 {
				at, col = at-1, len(words[at-1])+1
			}
			is(t, src, d, diag(2, api.Odd, at+1, col))
		}
	}
	must(t, "some are right, some odd", odd > 100 && right > 100)
}

func TestP201Order(t *testing.T) {
	t.Parallel()
	// What a token list says first is told, whatever is wrong behind it.
	for _, c := range []struct {
		src  string
		want api.Diag
	}{
		{"int main() { return 7 }", diag(2, api.Odd, 1, 23)},
		{"int main() { S * ; }", diag(2, api.Odd, 1, 18)},
		{"int main() { a * b; }", diag(2, api.Odd, 1, 19)},
		{"int main() { a; }", diag(2, api.Odd, 1, 15)},
		{"int main() { a->b; }", diag(2, api.Odd, 1, 18)},
		{"int main() { a->b(); }", diag(2, api.Odd, 1, 18)},
		{"int main() { 7; }", diag(2, api.Odd, 1, 14)},
		{"int main() { get(); }", diag(2, api.Odd, 1, 14)},
		{"int main() { new S; }", diag(2, api.Odd, 1, 14)},
		{"int main() { (a)->b = 1; }", diag(2, api.Odd, 1, 14)},
		{"int main() { f()->b = 1; }", diag(2, api.Odd, 1, 17)},
		{"int main() { free(a->b); }", diag(2, api.Odd, 1, 20)},
		{"int main() { if (a) b = 1; }", diag(2, api.Odd, 1, 21)},
		{"int main() { if (a) { } else if (b) { } }", diag(2, api.Odd, 1, 30)},
		{"int main() { while () { } }", diag(2, api.Odd, 1, 21)},
		{"int main() { return; }", diag(2, api.Odd, 1, 20)},
		{"int main() { { } }", diag(2, api.Odd, 1, 14)},
		{"int main() { int x; }", diag(2, api.Odd, 1, 19)},
		{"int main() { else { } }", diag(2, api.Odd, 1, 14)},
		{"int main(int) { }", diag(2, api.Odd, 1, 13)},
		{"int main(int a,) { }", diag(2, api.Odd, 1, 16)},
		{"int main(,) { }", diag(2, api.Odd, 1, 10)},
		{"int main();", diag(2, api.Odd, 1, 11)},
		{"int main() {", diag(2, api.Odd, 1, 13)},
		{"int main() { } }", diag(2, api.Odd, 1, 16)},
		{"S main() { }", diag(2, api.Odd, 1, 3)},
		{"struct S { int v }; ", diag(2, api.Odd, 1, 18)},
		{"struct S { int v; } ", diag(2, api.Odd, 1, 21)},
		{"struct S { v; };", diag(2, api.Odd, 1, 13)},
		{"struct int { };", diag(2, api.Odd, 1, 8)},
		{"x = 1;", diag(2, api.Odd, 1, 3)},
		{";", diag(2, api.Odd, 1, 1)},
		{"int main() { return 007; }", diag(1, api.Odd, 1, 21)},
		{"} 007", diag(1, api.Odd, 1, 3)},
	} {
		p, d := syntax.Text(c.src)
		is(t, c.src, d, c.want)
		equal(t, c.src, p, api.Prog{})
	}
}

// wrapped: a text with n times some text ahead, and behind.
func wrapped(n int, ahead, s, behind string) string {
	return strings.Repeat(ahead, n) + s + strings.Repeat(behind, n)
}

func TestP201Levels(t *testing.T) {
	t.Parallel()
	in := func(e string) string { return "int main() { return " + e + "; }" }
	for _, c := range []struct {
		what, src string
		want      api.Diag
	}{
		{"brackets", in(wrapped(199, "(", "x", ")")), api.Diag{}},
		{"brackets", in(wrapped(200, "(", "x", ")")), diag(2, api.Deep, 1, 20+200)},
		{"signs", in(strings.Repeat("-", 199) + "x"), api.Diag{}},
		{"signs", in(strings.Repeat("!", 200) + "x"), diag(2, api.Deep, 1, 20+200)},
		{"arguments", in(wrapped(199, "f(", "x", ")")), api.Diag{}},
		{"arguments", in(wrapped(200, "f(", "x", ")")), diag(2, api.Deep, 1, 20+400)},
		{"both", in(wrapped(100, "f(", wrapped(100, "(", "x", ")"), ")")), diag(2, api.Deep, 1, 20+300)},
		{"one beside the other", in(wrapped(199, "(", "x", ")") + "+" + wrapped(199, "(", "x", ")")), api.Diag{}},
		{"beside a sign", in("-x+" + wrapped(199, "(", "x", ")")), api.Diag{}},
		{"beside a call", in("f(x)+g()+" + wrapped(199, "(", "x", ")")), api.Diag{}},
		{"beside arguments", in("f(f(x), (x), -x, " + wrapped(198, "(", "x", ")") + ")"), api.Diag{}},
		{"beside blocks", "int f() { if (x) { } else { } while (x) { } " + wrapped(198, "if (x) {", "return -x;", "}") + "}", api.Diag{}},
		{"get", in(wrapped(199, "(", "get()", ")")), api.Diag{}},
		{"blocks", "int f() " + wrapped(199, "{ while (x) ", "{ }", "}"), api.Diag{}},
		{"blocks", "int f() " + wrapped(200, "{ while (x) ", "{ }", "}"), diag(2, api.Deep, 1, 9+200*12)},
		{"else", "int f() " + wrapped(200, "{ if (x) { } else ", "{ }", "}"), diag(2, api.Deep, 1, 9+199*18+9)},
		{"a call", "int f() " + wrapped(199, "{ if (x) ", "{ f(); }", "}"), diag(2, api.Deep, 1, 9+199*9+3)},
		{"params", "int f(int a) " + wrapped(199, "{ while (x) ", "{ }", "}"), api.Diag{}},
	} {
		_, d := syntax.Text(c.src)
		is(t, c.what, d, c.want)
	}
	deep := func(s string) string { return "int f() " + wrapped(199, "{ if (x) ", "{ "+s+" }", "}") }
	for _, s := range []string{"put(x);", "free(x);", "x = get();", "return x;", "x->y = z;", "int a = 1;", "break;"} {
		_, d := syntax.Text(deep(s))
		is(t, "within 200 blocks: "+s, d, api.Diag{})
	}
	for s, col := range map[string]int{"put((x));": 4, "x = f(x);": 5, "return -x;": 7, "f();": 1, "if (x) { }": 7, "while (-x) { }": 7} {
		_, d := syntax.Text(deep(s))
		is(t, "within 200 blocks: "+s, d, diag(2, api.Deep, 1, 9+199*9+2+col))
	}
	_, d := syntax.Expr(scanned(wrapped(200, "(", "x", ")")))
	is(t, "200 brackets of an expression", d, api.Diag{})
	_, d = syntax.Expr(scanned(wrapped(201, "(", "x", ")")))
	is(t, "201 brackets of an expression", d, diag(2, api.Deep, 1, 201))
}

func TestP201Heights(t *testing.T) {
	t.Parallel()
	arrows := func(n int) string { return strings.Repeat("->f", n) }
	for _, c := range []struct {
		what, src string
		want      api.Diag
	}{
		{"199 arrows", "a" + arrows(199), api.Diag{}},
		{"200 arrows", "a" + arrows(200), diag(2, api.Deep, 1, 2+199*3)},
		{"201 arrows", "a" + arrows(201), diag(2, api.Deep, 1, 2+199*3)},
		{"199 sums", "a" + strings.Repeat("+a", 199), api.Diag{}},
		{"200 sums", "a" + strings.Repeat("+a", 200), diag(2, api.Deep, 1, 2+199*2)},
		{"200 sums, and what is wrong behind", "a" + strings.Repeat("*a", 200) + ")", diag(2, api.Deep, 1, 2+199*2)},
		{"200 sums, and what is wrong in the last one", "a" + strings.Repeat("+a", 199) + "+*", diag(2, api.Odd, 1, 2+199*2+1)},
		{"a comparison above", "a" + arrows(199) + "<a", diag(2, api.Deep, 1, 2+199*3)},
		{"a comparison above, at the right", "a<a" + arrows(199), diag(2, api.Deep, 1, 2)},
		{"200 signs", strings.Repeat("-", 200) + "x", diag(2, api.Deep, 1, 1)},
		{"199 signs", strings.Repeat("-", 199) + "x", api.Diag{}},
		{"200 calls", wrapped(200, "f(", "x", ")"), diag(2, api.Deep, 1, 1)},
		{"a call of the highest", "f(a" + arrows(198) + ",a" + arrows(199) + ")", diag(2, api.Deep, 1, 1)},
		{"a call of 199", "f(a" + arrows(198) + ")", api.Diag{}},
		{"a call without", wrapped(199, "f(", "f()", ")"), api.Diag{}},
		{"brackets have no height", wrapped(200, "(", "x", ")"), api.Diag{}},
		{"brackets have no height, 199 more", wrapped(200, "(", "x"+arrows(199), ")"), api.Diag{}},
		{"the inner one first", "b" + "+a" + arrows(200), diag(2, api.Deep, 1, 4+199*3)},
	} {
		e, d := syntax.Expr(scanned(c.src))
		is(t, c.what, d, c.want)
		if c.want != (api.Diag{}) {
			equal(t, c.what, e, api.Expr{})
		}
	}
	in := func(s string) string { return "int f() {\n" + s + "\n}" }
	_, d := syntax.Text(in("a" + arrows(200) + " = 1;"))
	is(t, "a target of 200 arrows", d, api.Diag{})
	_, d = syntax.Text(in("a" + arrows(201) + " = 1;"))
	is(t, "a target of 201 arrows", d, diag(2, api.Deep, 2, 2+199*3))
}

func heightAgain(e api.Expr) int {
	high := 1
	for _, k := range e.Kids {
		if h := heightAgain(k) + 1; h > high {
			high = h
		}
	}
	return high
}

func TestP202Height(t *testing.T) {
	t.Parallel()
	e, _ := syntax.Expr(scanned("x - 1 - y->f"))
	is(t, "the example", syntax.Height(e), 3)
	is(t, "one", syntax.Height(api.Expr{}), 1)
	for seed := range uint64(500) {
		e := wild{dice(seed)}.expr(6)
		is(t, shape(e), syntax.Height(e), heightAgain(e))
	}
}

func countAgain(l []api.Stmt) int {
	n := 0
	var kids func(l []api.Expr)
	kids = func(l []api.Expr) {
		for _, e := range l {
			n++
			kids(e.Kids)
		}
	}
	for _, s := range l {
		n += 1 + countAgain(s.Body) + countAgain(s.Else)
		kids(s.E)
	}
	return n
}

func TestP202Count(t *testing.T) {
	t.Parallel()
	p, _ := syntax.Text("int main() { return 1 + 2; }")
	is(t, "of a return", syntax.Count(p), 4)
	is(t, "of nothing", syntax.Count(api.Prog{}), 0)
	for seed := range uint64(500) {
		p := wild{dice(seed)}.prog()
		n := 0
		for _, f := range p.Funcs {
			n += countAgain(f.Body)
		}
		is(t, "Count", syntax.Count(p), n)
	}
}

// nudged: programs that are another one in one thing each.
func nudged(p func() api.Prog) []api.Prog {
	var l []api.Prog
	var expr func(get func(*api.Prog) *api.Expr)
	change := func(by func(*api.Prog)) {
		q := p()
		by(&q)
		l = append(l, q)
	}
	expr = func(get func(*api.Prog) *api.Expr) {
		change(func(q *api.Prog) { get(q).Kind++ })
		change(func(q *api.Prog) { get(q).N++ })
		change(func(q *api.Prog) { get(q).Name += "z" })
		change(func(q *api.Prog) { get(q).Op += "z" })
		change(func(q *api.Prog) { e := get(q); e.Kids = append(e.Kids, api.Expr{}) })
		q := p()
		for k := range get(&q).Kids {
			expr(func(q *api.Prog) *api.Expr { return &get(q).Kids[k] })
		}
	}
	var list func(get func(*api.Prog) *[]api.Stmt)
	list = func(get func(*api.Prog) *[]api.Stmt) {
		change(func(q *api.Prog) { *get(q) = append(*get(q), api.Stmt{}) })
		q := p()
		for i := range *get(&q) {
			at := func(q *api.Prog) *api.Stmt { return &(*get(q))[i] }
			change(func(q *api.Prog) { at(q).Kind++ })
			change(func(q *api.Prog) { at(q).T.Ptr = !at(q).T.Ptr })
			change(func(q *api.Prog) { at(q).T.To += "z" })
			change(func(q *api.Prog) { at(q).Name += "z" })
			change(func(q *api.Prog) { at(q).E = append(at(q).E, api.Expr{}) })
			for k := range at(&q).E {
				expr(func(q *api.Prog) *api.Expr { return &at(q).E[k] })
			}
			list(func(q *api.Prog) *[]api.Stmt { return &at(q).Body })
			list(func(q *api.Prog) *[]api.Stmt { return &at(q).Else })
		}
	}
	fields := func(get func(*api.Prog) *[]api.Field) {
		change(func(q *api.Prog) { *get(q) = append(*get(q), api.Field{}) })
		q := p()
		for i := range *get(&q) {
			change(func(q *api.Prog) { (*get(q))[i].Name += "z" })
			change(func(q *api.Prog) { (*get(q))[i].T.Ptr = !(*get(q))[i].T.Ptr })
			change(func(q *api.Prog) { (*get(q))[i].T.To += "z" })
		}
	}
	change(func(q *api.Prog) { q.Structs = append(q.Structs, api.Struct{}) })
	change(func(q *api.Prog) { q.Funcs = append(q.Funcs, api.Func{}) })
	q := p()
	for i := range q.Structs {
		change(func(q *api.Prog) { q.Structs[i].Name += "z" })
		fields(func(q *api.Prog) *[]api.Field { return &q.Structs[i].Fields })
	}
	for i := range q.Funcs {
		change(func(q *api.Prog) { q.Funcs[i].Name += "z" })
		change(func(q *api.Prog) { q.Funcs[i].Ret.Ptr = !q.Funcs[i].Ret.Ptr })
		change(func(q *api.Prog) { q.Funcs[i].Ret.To += "z" })
		fields(func(q *api.Prog) *[]api.Field { return &q.Funcs[i].Params })
		list(func(q *api.Prog) *[]api.Stmt { return &q.Funcs[i].Body })
	}
	return l
}

func TestP202Same(t *testing.T) {
	t.Parallel()
	for seed := range uint64(60) {
		make := func() api.Prog { return wild{dice(seed)}.prog() }
		a, b := make(), make()
		r := dice(seed + 9)
		written(&a, r)
		must(t, "the same but for places", syntax.Same(a, b) && syntax.Same(b, a))
		for i, c := range nudged(make) {
			must(t, "not the same "+strconv.Itoa(i), !syntax.Same(a, c) && !syntax.Same(c, a))
		}
	}
	nothing := api.Prog{Structs: []api.Struct{}, Funcs: []api.Func{}}
	must(t, "nil and empty", syntax.Same(nothing, api.Prog{}))
	a, _ := syntax.Expr(scanned("x + f(1)"))
	b, _ := syntax.Expr(scanned(" x+ (f( 1 ))"))
	must(t, "expressions", syntax.SameExpr(a, b))
	for _, s := range []string{"x - f(1)", "y + f(1)", "x + g(1)", "x + f(2)", "x + f()", "x + f(x)", "f(1) + x", "x"} {
		c, _ := syntax.Expr(scanned(s))
		must(t, s, !syntax.SameExpr(a, c) && !syntax.SameExpr(c, a))
	}
}
