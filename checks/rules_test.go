package checks

import (
	"math"
	"math/rand/v2"
	"slices"
	"testing"

	"usufruct/alias"
	"usufruct/api"
	"usufruct/audit"
	"usufruct/bl"
	"usufruct/blread"
	"usufruct/blrun"
	"usufruct/bltype"
	"usufruct/calls"
	"usufruct/classes"
	"usufruct/cnf"
	"usufruct/dom"
	"usufruct/flow"
	"usufruct/hollow"
	"usufruct/ir"
	"usufruct/live"
	"usufruct/loans"
	"usufruct/lower"
	"usufruct/mcrun"
	"usufruct/moves"
	"usufruct/names"
	"usufruct/nll"
	"usufruct/points"
	"usufruct/proof"
	"usufruct/regions"
	"usufruct/rewrite"
	"usufruct/show"
	"usufruct/solve"
	"usufruct/syntax"
	"usufruct/token"
	"usufruct/trace"
	"usufruct/translate"
	"usufruct/want"
)

// anyInt: some number, small ones and the greatest.
func anyInt(r *rand.Rand) int {
	if r.IntN(6) == 0 {
		return pick(r, []int{math.MinInt, math.MaxInt, math.MinInt + 1, -1, 1 << 31, 1 << 62})
	}
	return r.IntN(7) - 1
}

func anyList(r *rand.Rand) []int {
	var l []int
	for range r.IntN(4) {
		l = append(l, anyInt(r))
	}
	return l
}

func anyName(r *rand.Rand) string {
	return pick(r, []string{"", "main", "S", "T", "f", "v", "int", "own", "a b", "é", "(", "x0"})
}

func anyType(r *rand.Rand) api.Type { return api.Type{Ptr: r.IntN(2) == 0, To: anyName(r)} }

func anyVar(r *rand.Rand) api.Var { return api.Var{T: anyType(r), Class: anyInt(r)} }

// anyModule: a module of anything.
func anyModule(r *rand.Rand) api.Module {
	var m api.Module
	for range r.IntN(4) {
		s := api.Struct{Name: anyName(r)}
		for range r.IntN(4) {
			s.Fields = append(s.Fields, api.Field{Name: anyName(r), T: anyType(r)})
		}
		m.Structs = append(m.Structs, s)
	}
	for range r.IntN(4) {
		c := api.Code{Name: anyName(r), Params: anyInt(r), Ret: anyVar(r), From: anyList(r)}
		for range r.IntN(5) {
			c.Vars = append(c.Vars, anyVar(r))
		}
		for range r.IntN(12) {
			c.Ins = append(c.Ins, api.Instr{Op: r.IntN(22) - 1, D: anyInt(r), A: anyInt(r), B: anyInt(r), F: anyInt(r), N: int64(anyInt(r)), Sign: pick(r, []string{"", "+", "==", "/", "?"}),
				Args: anyList(r), Mode: anyList(r), To: anyInt(r), Else: anyInt(r), At: api.Pos{Line: anyInt(r), Col: anyInt(r)}})
		}
		m.Funcs = append(m.Funcs, c)
	}
	return m
}

// anyExpr, anyStmts, anyProg: programs that no parser makes.
func anyExpr(r *rand.Rand, deep int) api.Expr {
	e := api.Expr{Kind: r.IntN(12) - 1, N: int64(anyInt(r)), Name: anyName(r), Op: pick(r, []string{"", "+", "==", "->", "?"})}
	for range r.IntN(4) {
		if deep > 0 {
			e.Kids = append(e.Kids, anyExpr(r, deep-1))
		}
	}
	return e
}

func anyStmts(r *rand.Rand, deep int) []api.Stmt {
	var l []api.Stmt
	for range r.IntN(4) {
		s := api.Stmt{Kind: r.IntN(14) - 1, T: anyType(r), Name: anyName(r)}
		for range r.IntN(3) {
			s.E = append(s.E, anyExpr(r, 2))
		}
		if deep > 0 {
			s.Body, s.Else = anyStmts(r, deep-1), anyStmts(r, deep-1)
		}
		l = append(l, s)
	}
	return l
}

func anyProg(r *rand.Rand) api.Prog {
	var p api.Prog
	for range r.IntN(3) {
		p.Structs = append(p.Structs, api.Struct{Name: anyName(r), Fields: []api.Field{{Name: anyName(r), T: anyType(r)}, {Name: anyName(r), T: anyType(r)}}[:r.IntN(3)]})
	}
	for range r.IntN(3) {
		p.Funcs = append(p.Funcs, api.Func{Name: anyName(r), Ret: anyType(r), Params: []api.Field{{Name: anyName(r), T: anyType(r)}}[:r.IntN(2)], Body: anyStmts(r, 2)})
	}
	return p
}

// askModule: all that may be asked of a module, and of numbers.
func askModule(m api.Module, n []int) {
	for _, k := range n {
		for _, l := range n {
			bl.Instr(m, k, l)
			bltype.Uses(m, k, l)
			rewrite.Mode(m, k, l)
			rewrite.Source(m, api.Diag{Stage: 25, At: api.Pos{Line: k, Col: l}})
			hollow.Holes(m, k, l)
			t := moves.Of(m, k)
			t.There(l, k)
			t.Perhaps(l, k)
			t.Gone(l)
			u := loans.Of(m, k)
			u.Held(l, k)
			u.Value(l, k)
			u.Made(l)
			u.Holders(l, k)
		}
		bl.Head(m, k)
		nll.Clashes(m, k)
		nll.Short(m, k)
		hollow.Wrong(m, k)
		audit.Deepest(m, k)
	}
	ir.Right(m)
	ir.Same(m, m)
	bl.Formed(m)
	bl.Text(m)
	bl.Plain(m)
	bltype.Check(m)
	moves.Check(m)
	nll.Check(m)
	nll.Accept(m)
	hollow.Check(m)
	rewrite.Rewrite(m)
	rewrite.Moves(m)
	classes.Decode(m, nil)
	classes.Infer(m)
	classes.Count(m)
	audit.Why(m)
	w := translate.Work{Lower: m, Target: m, Text: "x"}
	audit.Count(w)
	audit.Find(w)
	audit.Lines(w)
	mcrun.Run(m, nil, nil, 50)
	blrun.Run(m, nil, nil, 50)
	trace.Compare(m, m, nil, nil, 50)
}

// askObjects: all that may be asked of what is made of a module, and its functions.
func askObjects(m api.Module, n []int) {
	g := calls.Of(m)
	s, _ := points.Of(m)
	v, _ := alias.Of(m)
	w, _ := want.Of(m)
	r, _ := regions.Of(m)
	_ = slices.Collect(g.Up())
	g.Groups()
	s.Sites()
	w.Formula()
	r.Rounds()
	r.Module()
	for _, k := range n {
		for _, l := range n {
			g.Reaches(k, l)
			s.Var(k, l)
			s.Field(k, l)
			s.Has(k, l, k)
			_ = slices.Collect(s.Each(k, l))
			v.May(k, l, k)
			v.Inside(k, l, k)
			v.Reach(k, l)
			w.Own(k, l)
			w.Mut(k, l)
			r.Var(k, l)
		}
		g.Callees(k)
		g.Callers(k)
		g.Group(k)
		g.Recursive(k)
		g.Sites(k)
		s.Result(k)
		v.Ring(k)
		v.Pairs(k)
		v.Out(k)
		w.Why(k)
		r.From(k)
		r.Sign(k)
	}
	for _, c := range m.Funcs {
		askCode(c, n)
	}
}

func askCode(c api.Code, n []int) {
	flow.Reach(c)
	flow.Behind(c)
	flow.Order(c)
	flow.Loops(c)
	flow.Blocks(c)
	d, l := dom.Of(c), live.Of(c)
	l.Idle()
	l.Most()
	for _, k := range n {
		for _, x := range n {
			d.Dominates(k, x)
			l.Ahead(k, x)
			l.Behind(k, x)
		}
		_ = slices.Collect(flow.From(c, k))
		_ = slices.Collect(d.Under(k))
		d.Over(k)
		d.Path(k)
		d.Depth(k)
		d.Natural(k)
		_ = slices.Collect(l.Vars(k))
		l.Last(k)
	}
	for at, i := range c.Ins {
		ir.Reads(i)
		ir.Writes(i)
		ir.Next(i, at)
		bltype.Instr(c, i)
	}
}

func TestRule1NoPanic(t *testing.T) {
	t.Parallel()
	n := []int{0, 1, 2, 5, -1, math.MaxInt, math.MinInt}
	modules := lentModules(60)
	for seed := range uint64(1500) {
		r := dice(seed)
		m := anyModule(r)
		if r.IntN(2) == 0 {
			m = cloned(pick(r, modules))
			for range 1 + r.IntN(3) {
				nudgeBl(r, &m)
				i := &m.Funcs[r.IntN(len(m.Funcs))].Ins[0]
				i.Mode, i.Args, i.D = anyList(r), anyList(r), anyInt(r)
			}
		}
		before := cloned(m)
		askModule(m, n)
		askObjects(m, n)
		must(t, "what was handed in stays", ir.Same(m, before))
	}
}

func TestRule1Programs(t *testing.T) {
	t.Parallel()
	for seed := range uint64(3000) {
		r := dice(seed)
		p := anyProg(r)
		show.Prog(p)
		names.Check(p)
		lower.Lower(p)
		syntax.Count(p)
		syntax.Same(p, p)
		names.Field(p, anyName(r), anyName(r))
		var l []api.Token
		for range r.IntN(9) {
			l = append(l, api.Token{Kind: r.IntN(8) - 1, Text: pick(r, append(append([]string{"", "x", "S"}, allWords...), allSigns...)), N: int64(anyInt(r))})
		}
		l = append(l, api.Token{Kind: 5})
		syntax.Parse(l)
		syntax.Expr(l)
		token.Text(l)
		b := make([]byte, r.IntN(30))
		for k := range b {
			b[k] = byte(r.IntN(256))
		}
		token.Scan(string(b))
		blread.Read(string(b))
		blread.Words(string(b))
		blread.Index(string(b))
		translate.Text(string(b))
		cnf.Parse(string(b))
	}
}

func TestRule1Formulas(t *testing.T) {
	t.Parallel()
	for seed := range uint64(1500) {
		r := dice(seed)
		f := cnf.Formula{N: anyInt(r)}
		for range r.IntN(5) {
			f.L = append(f.L, anyList(r))
		}
		lits := anyList(r)
		before := append([][]int{slices.Clone(lits)}, cloneLists(f.L)...)
		cnf.Given(f, anyInt(r))
		cnf.Text(f)
		cnf.Eval(f, make([]bool, r.IntN(5)))
		cnf.Norm(lits)
		solve.Solve(f)
		solve.Fixed(f, lits)
		solve.Pure(f)
		solve.Count(f, 9)
		s := solve.New(f)
		s.Assume(lits...)
		s.Model()
		steps, _ := proof.Refute(f)
		proof.Core(f, steps)
		l := []proof.Step{{A: anyInt(r), B: anyInt(r), On: anyInt(r)}, {A: anyInt(r), B: anyInt(r), On: anyInt(r)}}
		proof.Check(f, l)
		proof.Clauses(f, l)
		proof.Trim(f, l)
		b := cnf.New()
		b.Var()
		b.Clause(lits...)
		b.Imply(lits, lits...)
		b.Same(anyInt(r), anyInt(r))
		equal(t, "what was handed in stays", append([][]int{lits}, f.L...), before)
	}
}

func cloneLists(l [][]int) [][]int {
	var n [][]int
	for _, c := range l {
		n = append(n, slices.Clone(c))
	}
	return n
}

func TestRule4SpareRoom(t *testing.T) {
	t.Parallel()
	// Lists with room behind them: nothing is written there.
	r := dice(1)
	for range 300 {
		room := make([]int, 8)
		for k := range room {
			room[k] = 70 + k
		}
		a, b := room[:2:8], []int{-70, 3, 4, 5}[:2:4]
		a[0], a[1] = 70, 1+r.IntN(3)
		cnf.Norm(a)
		cnf.Resolve(a, b, 70)
		cnf.Given(cnf.Formula{N: 100, L: [][]int{a, b}}, 70)
		solve.Fixed(cnf.Formula{N: 100, L: [][]int{a, b}}, a)
		solve.Solve(cnf.Formula{N: 100, L: [][]int{a, b}})
		proof.Refute(cnf.Formula{N: 100, L: [][]int{a, b}})
		n := cnf.New()
		for range 100 {
			n.Var()
		}
		n.Clause(a...)
		n.Imply(a, b...)
		s := solve.New(cnf.Formula{N: 100})
		s.Assume(a...)
		in := make([]byte, 4, 9)
		blrun.Run(lowered(mainText), in, nil, 9)
		trace.Prefix(in[:1], in[:2])
		is(t, "the room behind a list", room[2:], "[72 73 74 75 76 77]")
		is(t, "a list", b[:4], "[-70 3 4 5]")
	}
	args := []int{0, 1, 9, 9}[:2:4]
	ir.Reads(api.Instr{Op: api.Call, Args: args})
	words := []string{"int", "a", "b", "c"}[:2:4]
	_, rest, _ := blread.Variable(words)
	_ = append(rest, "z")
	is(t, "the room behind words", words[:4], "[int a b c]")
	is(t, "the room behind arguments", args[:4], "[0 1 9 9]")
}
