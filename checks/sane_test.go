package checks

import (
	"fmt"
	"math/rand/v2"
	"strings"

	"usufruct/api"
)

// sane: makes programs whose names and types are right; what they do may be anything.
type sane struct {
	r     *rand.Rand
	prog  api.Prog
	seen  []api.Field // the variables that are seen, with their types
	ret   api.Type
	loops int
	count int
}

func number() api.Type           { return api.Type{} }
func to(name string) api.Type    { return api.Type{Ptr: true, To: name} }
func variable(n string) api.Expr { return api.Expr{Kind: 2, Name: n} }

// sanely: a program for a seed.
func sanely(seed uint64) api.Prog {
	g := &sane{r: dice(seed)}
	names := []string{"S", "T"}[:1+g.r.IntN(2)]
	for _, n := range names {
		s := api.Struct{Name: n, Fields: []api.Field{{Name: "v"}, {Name: "n", T: to(n)}}}
		if g.r.IntN(2) == 0 {
			s.Fields = append(s.Fields, api.Field{Name: "m", T: to(pick(g.r, names))}, api.Field{Name: "w"})
		}
		g.prog.Structs = append(g.prog.Structs, s)
	}
	for i := range 1 + g.r.IntN(3) {
		f := api.Func{Name: fmt.Sprint("f", i), Ret: g.kind()}
		for k := range g.r.IntN(4) {
			f.Params = append(f.Params, api.Field{Name: fmt.Sprint("p", k), T: g.kind()})
		}
		g.prog.Funcs = append(g.prog.Funcs, f)
	}
	g.prog.Funcs = append(g.prog.Funcs, api.Func{Name: "main"})
	for i := range g.prog.Funcs {
		f := &g.prog.Funcs[i]
		g.seen, g.ret, g.loops = append([]api.Field{}, f.Params...), f.Ret, 0
		f.Body = append(g.block(3), api.Stmt{Kind: 8, E: []api.Expr{g.value(f.Ret, 2)}})
	}
	return g.prog
}

func (g *sane) kind() api.Type {
	if g.r.IntN(3) == 0 {
		return number()
	}
	return to(pick(g.r, g.prog.Structs).Name)
}

// of: the variables of a type.
func (g *sane) of(t api.Type) []string {
	var l []string
	for _, v := range g.seen {
		if v.T == t {
			l = append(l, v.Name)
		}
	}
	return l
}

// field: an expression that is a field of this type, if one is to be had.
func (g *sane) field(t api.Type) (api.Expr, bool) {
	var l []api.Expr
	for _, v := range g.seen {
		for _, s := range g.prog.Structs {
			for _, f := range s.Fields {
				if v.T == to(s.Name) && f.T == t {
					l = append(l, api.Expr{Kind: 3, Name: f.Name, Kids: []api.Expr{variable(v.Name)}})
				}
			}
		}
	}
	if len(l) == 0 {
		return api.Expr{}, false
	}
	e := pick(g.r, l)
	if g.r.IntN(4) == 0 && e.Name != "m" {
		e.Kids = []api.Expr{{Kind: 3, Name: "n", Kids: e.Kids}}
	}
	return e, true
}

// call: a call of a function that gives this type, if there is one.
func (g *sane) call(t api.Type, deep int) (api.Expr, bool) {
	var l []api.Func
	for _, f := range g.prog.Funcs {
		if f.Ret == t && f.Name != "main" {
			l = append(l, f)
		}
	}
	if len(l) == 0 {
		return api.Expr{}, false
	}
	f := pick(g.r, l)
	e := api.Expr{Kind: 9, Name: f.Name}
	for _, p := range f.Params {
		e.Kids = append(e.Kids, g.value(p.T, deep-1))
	}
	return e, true
}

// value: an expression of a type.
func (g *sane) value(t api.Type, deep int) api.Expr {
	if l := g.of(t); len(l) > 0 && g.r.IntN(2) == 0 {
		return variable(pick(g.r, l))
	}
	if e, is := g.field(t); is && g.r.IntN(3) == 0 {
		return e
	}
	if deep > 0 && g.r.IntN(4) == 0 {
		if e, is := g.call(t, deep); is {
			return e
		}
	}
	if t.Ptr {
		if g.r.IntN(4) == 0 {
			return api.Expr{Kind: 6}
		}
		return api.Expr{Kind: 7, Name: t.To}
	}
	if deep <= 0 || g.r.IntN(3) == 0 {
		return api.Expr{Kind: 1, N: int64(g.r.IntN(1 << g.r.IntN(31)))}
	}
	switch g.r.IntN(5) {
	case 0:
		return api.Expr{Kind: 8}
	case 1:
		return api.Expr{Kind: 5, Op: pick(g.r, []string{"-", "!"}), Kids: []api.Expr{g.value(t, deep-1)}}
	case 2:
		return g.nullness(deep)
	}
	return api.Expr{Kind: 4, Op: pick(g.r, strings.Fields("+ - * / % < <= > >= == !=")), Kids: []api.Expr{g.value(t, deep-1), g.value(t, deep-1)}}
}

// nullness: a pointer and null, held against each other.
func (g *sane) nullness(deep int) api.Expr {
	p := g.value(to(pick(g.r, g.prog.Structs).Name), deep-1)
	kids := []api.Expr{p, {Kind: 6}}
	if g.r.IntN(3) == 0 {
		kids = []api.Expr{{Kind: 6}, p}
	}
	return api.Expr{Kind: 4, Op: pick(g.r, []string{"==", "!="}), Kids: kids}
}

func (g *sane) block(deep int) []api.Stmt {
	before := len(g.seen)
	var l []api.Stmt
	for range 1 + g.r.IntN(5) {
		l = append(l, g.stmt(deep))
		if g.loops > 0 && deep < 3 && g.r.IntN(8) == 0 {
			l = append(l, api.Stmt{Kind: 6 + g.r.IntN(2)})
			break
		}
	}
	if deep < 3 {
		g.seen = g.seen[:before]
		if g.r.IntN(12) == 0 && !endsAgain(l[len(l)-1]) {
			l = append(l, api.Stmt{Kind: 8, E: []api.Expr{g.value(g.ret, 1)}})
		}
	}
	// Behind an if that ends nothing may stand.
	for i, s := range l {
		if s.Kind == 4 && (i < len(l)-1 || deep == 3) && endsAgain(s) {
			l[i].Else = nil
		}
	}
	return l
}

func endsAgain(s api.Stmt) bool {
	last := func(l []api.Stmt) bool {
		for _, x := range l {
			if endsAgain(x) {
				return true
			}
		}
		return false
	}
	return s.Kind >= 6 && s.Kind <= 8 || s.Kind == 4 && last(s.Body) && last(s.Else)
}

func (g *sane) stmt(deep int) api.Stmt {
	switch k := g.r.IntN(12); {
	case k < 4:
		t := g.kind()
		e := g.value(t, 2)
		g.count++
		n := fmt.Sprint("v", g.count)
		g.seen = append(g.seen, api.Field{Name: n, T: t})
		return api.Stmt{Kind: 1, T: t, Name: n, E: []api.Expr{e}}
	case k == 4 && len(g.seen) > 0:
		v := pick(g.r, g.seen)
		return api.Stmt{Kind: 2, Name: v.Name, E: []api.Expr{g.value(v.T, 2)}}
	case k < 7:
		t := g.kind()
		if e, is := g.field(t); is {
			return api.Stmt{Kind: 3, Name: e.Name, E: []api.Expr{e.Kids[0], g.value(t, 2)}}
		}
	case k == 7 && deep > 0:
		s := api.Stmt{Kind: 4, E: []api.Expr{g.value(number(), 2)}, Body: g.block(deep - 1)}
		if g.r.IntN(2) == 0 {
			s.Else = g.block(deep - 1)
		}
		return s
	case k == 8 && deep > 0:
		g.loops++
		s := api.Stmt{Kind: 5, E: []api.Expr{g.value(number(), 2)}, Body: g.block(deep - 1)}
		g.loops--
		return s
	case k == 9:
		if l := g.of(to(pick(g.r, g.prog.Structs).Name)); len(l) > 0 {
			return api.Stmt{Kind: 9, Name: pick(g.r, l)}
		}
	case k == 10:
		if e, is := g.call(pick(g.r, g.prog.Funcs).Ret, 2); is {
			return api.Stmt{Kind: 11, E: []api.Expr{e}}
		}
	}
	return api.Stmt{Kind: 10, E: []api.Expr{g.value(number(), 2)}}
}
