package checks

import (
	"math/rand/v2"
	"strconv"
	"strings"

	"usufruct/api"
)

// layout: a program as tokens, put one by one; while it is put, a place's Line is the number of its token.
type layout struct {
	r     *rand.Rand
	texts []string
}

func (p *layout) put(texts ...string) api.Pos {
	n := len(p.texts)
	p.texts = append(p.texts, texts...)
	return api.Pos{Line: n}
}

// binds: how tight an expression's own sign binds: 1 comparisons, 2 sums, 3 terms, 4 signs ahead, 5 all else.
func binds(e api.Expr) int {
	switch {
	case e.Kind == 5:
		return 4
	case e.Kind != 4:
		return 5
	case strings.Contains("*/%", e.Op):
		return 3
	case e.Op == "+" || e.Op == "-":
		return 2
	}
	return 1
}

// expr: puts an expression in a place where it must bind that tight; at times with brackets more than it must have.
func (p *layout) expr(e *api.Expr, tight int) {
	if binds(*e) < tight || p.r.IntN(12) == 0 {
		p.put("(")
		p.expr(e, 0)
		p.put(")")
		return
	}
	switch e.Kind {
	case 1:
		e.At = p.put(strconv.FormatInt(e.N, 10))
	case 2:
		e.At = p.put(e.Name)
	case 3:
		p.expr(&e.Kids[0], 5)
		e.At = p.put("->", e.Name)
	case 4:
		b := binds(*e)
		left := b
		if b == 1 {
			left = 2
		}
		p.expr(&e.Kids[0], left)
		e.At = p.put(e.Op)
		p.expr(&e.Kids[1], b+1)
	case 5:
		e.At = p.put(e.Op)
		p.expr(&e.Kids[0], 4)
	case 6:
		e.At = p.put("null")
	case 7:
		e.At = p.put("new", e.Name)
	case 8:
		e.At = p.put("get", "(", ")")
	case 9:
		e.At = p.put(e.Name, "(")
		for i := range e.Kids {
			if i > 0 {
				p.put(",")
			}
			p.expr(&e.Kids[i], 0)
		}
		p.put(")")
	}
}

func (p *layout) kind(t api.Type) api.Pos {
	if t.Ptr {
		return p.put(t.To, "*")
	}
	return p.put("int")
}

func (p *layout) block(l []api.Stmt) {
	p.put("{")
	for i := range l {
		p.stmt(&l[i])
	}
	p.put("}")
}

// chain: a target of a statement, in which no brackets may stand.
func (p *layout) chain(e *api.Expr) api.Pos {
	if e.Kind == 2 {
		e.At = p.put(e.Name)
		return e.At
	}
	first := p.chain(&e.Kids[0])
	e.At = p.put("->", e.Name)
	return first
}

func (p *layout) stmt(s *api.Stmt) {
	switch s.Kind {
	case 1:
		s.At = p.kind(s.T)
		p.put(s.Name, "=")
		p.expr(&s.E[0], 0)
	case 2:
		s.At = p.put(s.Name, "=")
		p.expr(&s.E[0], 0)
	case 3:
		s.At = p.chain(&s.E[0])
		p.put("->", s.Name, "=")
		p.expr(&s.E[1], 0)
	case 4, 5:
		s.At = p.put([]string{"if", "while"}[s.Kind-4], "(")
		p.expr(&s.E[0], 0)
		p.put(")")
		p.block(s.Body)
		if len(s.Else) > 0 {
			p.put("else")
			p.block(s.Else)
		}
		return
	case 6:
		s.At = p.put("break")
	case 7:
		s.At = p.put("continue")
	case 8:
		s.At = p.put("return")
		p.expr(&s.E[0], 0)
	case 9:
		s.At = p.put("free", "(", s.Name, ")")
	case 10:
		s.At = p.put("put", "(")
		p.expr(&s.E[0], 0)
		p.put(")")
	case 11:
		e := &s.E[0]
		s.At = p.put(e.Name, "(")
		e.At = s.At
		for i := range e.Kids {
			if i > 0 {
				p.put(",")
			}
			p.expr(&e.Kids[i], 0)
		}
		p.put(")")
	}
	p.put(";")
}

func (p *layout) prog(prog *api.Prog) {
	for i := range prog.Structs {
		s := &prog.Structs[i]
		s.At = p.put("struct", s.Name, "{")
		for k := range s.Fields {
			f := &s.Fields[k]
			p.kind(f.T)
			f.At = p.put(f.Name, ";")
		}
		p.put("}", ";")
	}
	for i := range prog.Funcs {
		f := &prog.Funcs[i]
		f.At = p.kind(f.Ret)
		p.put(f.Name, "(")
		for k := range f.Params {
			if k > 0 {
				p.put(",")
			}
			p.kind(f.Params[k].T)
			f.Params[k].At = p.put(f.Params[k].Name)
		}
		p.put(")")
		p.block(f.Body)
	}
}

// text: the tokens with blanks between; where each begins, and the end.
func (p *layout) text() (string, []api.Pos) {
	var b strings.Builder
	var places []api.Pos
	line, head := 1, 0
	for _, s := range p.texts {
		places = append(places, api.Pos{Line: line, Col: b.Len() - head + 1})
		b.WriteString(s)
		switch p.r.IntN(8) {
		case 0:
			b.WriteString(" // ; }\n\n")
			line += 2
			head = b.Len()
		case 1:
			b.WriteString("\t\n")
			line++
			head = b.Len()
		default:
			b.WriteString(" ")
		}
	}
	return b.String(), append(places, api.Pos{Line: line, Col: b.Len() - head + 1})
}

// placed: puts places where numbers of tokens stand.
func placed(p *api.Prog, places []api.Pos) {
	at := func(q *api.Pos) { *q = places[q.Line] }
	var inExpr func(e *api.Expr)
	inExpr = func(e *api.Expr) {
		at(&e.At)
		for i := range e.Kids {
			inExpr(&e.Kids[i])
		}
	}
	var inList func(l []api.Stmt)
	inList = func(l []api.Stmt) {
		for i := range l {
			at(&l[i].At)
			for k := range l[i].E {
				inExpr(&l[i].E[k])
			}
			inList(l[i].Body)
			inList(l[i].Else)
		}
	}
	for i := range p.Structs {
		at(&p.Structs[i].At)
		for k := range p.Structs[i].Fields {
			at(&p.Structs[i].Fields[k].At)
		}
	}
	for i := range p.Funcs {
		at(&p.Funcs[i].At)
		for k := range p.Funcs[i].Params {
			at(&p.Funcs[i].Params[k].At)
		}
		inList(p.Funcs[i].Body)
	}
}

// written: the text of a program, whose places are set.
func written(p *api.Prog, r *rand.Rand) string {
	l := &layout{r: r}
	l.prog(p)
	src, places := l.text()
	placed(p, places)
	return src
}

// wild: programs by the grammar, whatever their names mean.
type wild struct{ r *rand.Rand }

func (w wild) name() string {
	return pick(w.r, []string{"a", "b", "f", "main", "S", "T", "own", "x0", "_"})
}

func (w wild) kind() api.Type {
	if w.r.IntN(2) == 0 {
		return api.Type{}
	}
	return api.Type{Ptr: true, To: w.name()}
}

func (w wild) expr(deep int) api.Expr {
	kinds := []int{1, 2, 6, 7, 8}
	if deep > 0 {
		kinds = append(kinds, 3, 4, 4, 4, 5, 9, 9)
	}
	e := api.Expr{Kind: pick(w.r, kinds)}
	kids := 0
	switch e.Kind {
	case 1:
		e.N = int64(w.r.IntN(1 << w.r.IntN(31)))
	case 2, 7:
		e.Name = w.name()
	case 3:
		e.Name, kids = w.name(), 1
	case 4:
		e.Op, kids = pick(w.r, strings.Fields("+ - * / % < <= > >= == !=")), 2
	case 5:
		e.Op, kids = pick(w.r, []string{"-", "!"}), 1
	case 9:
		e.Name, kids = w.name(), w.r.IntN(4)
	}
	for range kids {
		e.Kids = append(e.Kids, w.expr(deep-1))
	}
	return e
}

func (w wild) chain(n int) api.Expr {
	e := api.Expr{Kind: 2, Name: w.name()}
	for range n {
		e = api.Expr{Kind: 3, Name: w.name(), Kids: []api.Expr{e}}
	}
	return e
}

func (w wild) stmt(deep int) api.Stmt {
	s := api.Stmt{Kind: 1 + w.r.IntN(11)}
	if deep == 0 && (s.Kind == 4 || s.Kind == 5) {
		s.Kind = 10
	}
	switch s.Kind {
	case 1:
		s.T = w.kind()
		s.Name = w.name()
		s.E = []api.Expr{w.expr(3)}
	case 2:
		s.Name = w.name()
		s.E = []api.Expr{w.expr(3)}
	case 3:
		s.Name = w.name()
		s.E = []api.Expr{w.chain(w.r.IntN(3)), w.expr(3)}
	case 4, 5:
		s.E = []api.Expr{w.expr(2)}
		s.Body = w.list(deep - 1)
		if s.Kind == 4 && w.r.IntN(2) == 0 {
			s.Else = w.list(deep - 1)
		}
	case 8, 10:
		s.E = []api.Expr{w.expr(4)}
	case 9:
		s.Name = w.name()
	case 11:
		e := api.Expr{Kind: 9, Name: w.name()}
		for range w.r.IntN(3) {
			e.Kids = append(e.Kids, w.expr(2))
		}
		s.E = []api.Expr{e}
	}
	return s
}

func (w wild) list(deep int) []api.Stmt {
	var l []api.Stmt
	for range w.r.IntN(4) {
		l = append(l, w.stmt(deep))
	}
	return l
}

func (w wild) fields() []api.Field {
	var l []api.Field
	for range w.r.IntN(4) {
		l = append(l, api.Field{Name: w.name(), T: w.kind()})
	}
	return l
}

func (w wild) prog() api.Prog {
	var p api.Prog
	for range w.r.IntN(3) {
		p.Structs = append(p.Structs, api.Struct{Name: w.name(), Fields: w.fields()})
	}
	for range w.r.IntN(3) {
		p.Funcs = append(p.Funcs, api.Func{Name: w.name(), Params: w.fields(), Ret: w.kind(), Body: w.list(2)})
	}
	return p
}
