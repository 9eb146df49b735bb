package checks

import (
	"fmt"
	"math"
	"math/rand/v2"
	"strings"
	"testing"

	"usufruct/api"
	"usufruct/bl"
	"usufruct/ir"
)

// everyBl: a formed program in which each operation stands.
func everyBl() api.Module {
	m := everyOp()
	g, main := &m.Funcs[0], &m.Funcs[1]
	g.Vars[0].Class, g.Vars[2].Class, g.Ret.Class, g.From = api.Share, api.Share, api.Share, []int{0}
	g.Ins[0].Mode, g.Ins[1].Mode = []int{api.Share}, []int{api.Share}
	main.Vars[1].Class, main.Vars[2].Class, main.Vars[3].Class = api.Own, api.Mut, api.Share
	at(m, api.Give).Mode, at(m, api.Take).Mode, at(m, api.Call).Mode = []int{api.Mut}, []int{api.Own}, []int{api.Share, 0}
	return m
}

const everyBlText = `struct S {
  v int
  n S
  t T
}
struct T {
  v int
}
fn g(share S, int) -> share T from 0 {
  var share T
  0 take x2 share x0 t
  1 ret share x2
}
fn main() -> int {
  var int
  var own S
  var mut S
  var share T
  var int
  0 num x0 7
  1 null x2
  2 copy x4 x0
  3 bin x0 x0 + x4
  4 get x0
  5 put x0
  6 new x1 S
  7 load x0 x1 v
  8 store x1 v x0
  9 give x2 mut x1
  10 take x2 own x1 n
  11 set x1 n x2
  12 isnull x4 == x2
  13 call x3 g share x1 x4
  14 branch x4 15 16
  15 jump 0
  16 free x1
  17 ret x0
}
`

func TestP2001Formed(t *testing.T) {
	t.Parallel()
	is(t, "a formed program", bl.Formed(everyBl()), api.OK)
	is(t, "what is not right", bl.Formed(api.Module{}), api.NoMain)
	long := strings.Repeat("n", 41)
	for _, c := range []struct {
		what string
		want api.Fault
		by   func(m *api.Module, g, main *api.Code)
	}{
		{"not right, and an odd name", api.Loose, func(m *api.Module, g, main *api.Code) { m.Funcs[0].Name = "int"; main.Ins[0].D = 9 }},
		{"a struct without a name", api.Odd, func(m *api.Module, g, main *api.Code) {
			m.Structs = append(m.Structs, api.Struct{})
		}},
		{"a struct's name", api.Odd, func(m *api.Module, g, main *api.Code) { m.Structs = append(m.Structs, api.Struct{Name: "get"}) }},
		{"a struct's long name", api.Odd, func(m *api.Module, g, main *api.Code) { m.Structs = append(m.Structs, api.Struct{Name: long}) }},
		{"a field's name", api.Odd, func(m *api.Module, g, main *api.Code) { m.Structs[1].Fields[0].Name = "a b" }},
		{"a function's name", api.Odd, func(m *api.Module, g, main *api.Code) { g.Name = "new" }},
		{"an odd name, and a class", api.Odd, func(m *api.Module, g, main *api.Code) { main.Vars[0].Class = 1; m.Structs[1].Fields[0].Name = "" }},
		{"names may be words of the second language", api.OK, func(m *api.Module, g, main *api.Code) { g.Name = "share"; m.Structs[1].Fields[0].Name = "fn" }},
		{"a number with a class", api.Mistyped, func(m *api.Module, g, main *api.Code) { main.Vars[4].Class = api.Own }},
		{"a pointer without a class", api.Mistyped, func(m *api.Module, g, main *api.Code) { main.Vars[1].Class = 0 }},
		{"a pointer of class 4", api.Mistyped, func(m *api.Module, g, main *api.Code) { main.Vars[1].Class = 4 }},
		{"a pointer of class -1", api.Mistyped, func(m *api.Module, g, main *api.Code) { main.Vars[1].Class = -1 }},
		{"a result with a class", api.Mistyped, func(m *api.Module, g, main *api.Code) { main.Ret.Class = 3 }},
		{"a result without a class", api.Mistyped, func(m *api.Module, g, main *api.Code) { g.Ret.Class = 0; g.From = nil }},
		{"a class ahead of From", api.Mistyped, func(m *api.Module, g, main *api.Code) { g.Vars[1].Class = 1; g.From = []int{5} }},
		{"a function ahead of another", api.Odd, func(m *api.Module, g, main *api.Code) { g.From = []int{5}; main.Vars[1].Class = 0 }},
		{"no From", api.OK, func(m *api.Module, g, main *api.Code) { g.From = nil }},
		{"From twice", api.Odd, func(m *api.Module, g, main *api.Code) { g.From = []int{0, 0} }},
		{"From of a number", api.Odd, func(m *api.Module, g, main *api.Code) { g.From = []int{1} }},
		{"From of no parameter", api.Odd, func(m *api.Module, g, main *api.Code) { g.From = []int{2} }},
		{"From of -1", api.Odd, func(m *api.Module, g, main *api.Code) { g.From = []int{-1, 0} }},
		{"From of much", api.Odd, func(m *api.Module, g, main *api.Code) { g.From = []int{0, math.MaxInt} }},
		{"From of what is owned", api.Odd, func(m *api.Module, g, main *api.Code) { g.Vars[0].Class = api.Own }},
		{"From of what is lent to change", api.OK, func(m *api.Module, g, main *api.Code) { g.Vars[0].Class = api.Mut }},
		{"From, though the result is owned", api.Odd, func(m *api.Module, g, main *api.Code) { g.Ret.Class = api.Own }},
		{"From, though the result is a number", api.Odd, func(m *api.Module, g, main *api.Code) { main.From = []int{0} }},
		{"a result that is owned", api.OK, func(m *api.Module, g, main *api.Code) { g.Ret.Class = api.Own; g.From = nil }},
		{"Give without a mode", api.Odd, func(m *api.Module, g, main *api.Code) { main.Ins[9].Mode = nil }},
		{"Give with two", api.Odd, func(m *api.Module, g, main *api.Code) { main.Ins[9].Mode = []int{2, 2} }},
		{"Give with 0", api.Odd, func(m *api.Module, g, main *api.Code) { main.Ins[9].Mode = []int{0} }},
		{"Give with 4", api.Odd, func(m *api.Module, g, main *api.Code) { main.Ins[9].Mode = []int{4} }},
		{"Give with 3", api.OK, func(m *api.Module, g, main *api.Code) { main.Ins[9].Mode = []int{3} }},
		{"Take without a mode", api.Odd, func(m *api.Module, g, main *api.Code) { main.Ins[10].Mode = nil }},
		{"Take with -1", api.Odd, func(m *api.Module, g, main *api.Code) { main.Ins[10].Mode = []int{-1} }},
		{"Ret of a pointer without a mode", api.Odd, func(m *api.Module, g, main *api.Code) { g.Ins[1].Mode = nil }},
		{"Ret of a pointer with 0", api.Odd, func(m *api.Module, g, main *api.Code) { g.Ins[1].Mode = []int{0} }},
		{"Ret of a number with a mode", api.Odd, func(m *api.Module, g, main *api.Code) { main.Ins[17].Mode = []int{0} }},
		{"Call without modes", api.Odd, func(m *api.Module, g, main *api.Code) { main.Ins[13].Mode = nil }},
		{"Call with one", api.Odd, func(m *api.Module, g, main *api.Code) { main.Ins[13].Mode = []int{3} }},
		{"Call with three", api.Odd, func(m *api.Module, g, main *api.Code) { main.Ins[13].Mode = []int{3, 0, 0} }},
		{"Call with a number's", api.Odd, func(m *api.Module, g, main *api.Code) { main.Ins[13].Mode = []int{3, 3} }},
		{"Call without a pointer's", api.Odd, func(m *api.Module, g, main *api.Code) { main.Ins[13].Mode = []int{0, 0} }},
		{"Call with another one", api.OK, func(m *api.Module, g, main *api.Code) { main.Ins[13].Mode = []int{1, 0} }},
		{"modes of an instruction ahead of a class behind", api.Odd, func(m *api.Module, g, main *api.Code) { g.Ins[0].Mode = nil; main.Vars[1].Class = 0 }},
	} {
		m := everyBl()
		c.by(&m, &m.Funcs[0], &m.Funcs[1])
		is(t, c.what, bl.Formed(m), c.want)
		if c.want != api.OK {
			is(t, c.what, fmt.Sprintf("%q %q %q", bl.Text(m), bl.Head(m, 0), bl.Instr(m, 0, 0)), `"" "" ""`)
			for range bl.Lines(m) {
				t.Error("a line of what is not formed")
			}
		}
	}
	for at := range everyBl().Funcs[1].Ins {
		m := everyBl()
		i := &m.Funcs[1].Ins[at]
		if len(i.Mode) == 0 {
			i.Mode = []int{0}
			is(t, fmt.Sprint("a mode of op ", i.Op), bl.Formed(m), api.Odd)
			i.Mode = []int{3}
			is(t, fmt.Sprint("a mode of op ", i.Op), bl.Formed(m), api.Odd)
		}
	}
}

func TestP2001Plain(t *testing.T) {
	t.Parallel()
	m := everyBl()
	got := bl.Plain(m)
	equal(t, "Plain", got, everyOp())
	spoil(got)
	equal(t, "what was handed in stays", m, everyBl())
	odd := api.Module{Funcs: []api.Code{{From: []int{4}, Ret: api.Var{Class: 7}, Vars: []api.Var{{T: to("U"), Class: -2}}, Ins: []api.Instr{{Op: 99, N: 5, Mode: []int{8}, Args: []int{3}, At: api.Pos{Line: 2}}}}}}
	equal(t, "Plain of what is not right", bl.Plain(odd), api.Module{Funcs: []api.Code{{Vars: []api.Var{{T: to("U")}}, Ins: []api.Instr{{Op: 99, N: 5, Args: []int{3}, At: api.Pos{Line: 2}}}}}})
}

func TestP2002Text(t *testing.T) {
	t.Parallel()
	m := everyBl()
	is(t, "Text", bl.Text(m), everyBlText)
	one := api.Module{Funcs: []api.Code{{Name: "main", Vars: []api.Var{{}}, Ins: []api.Instr{{Op: api.Num, N: 7}, {Op: api.Ret}}}}}
	is(t, "the example", bl.Text(one), "fn main() -> int {\n  var int\n  0 num x0 7\n  1 ret x0\n}\n")
	lines := strings.Split(strings.TrimSuffix(everyBlText, "\n"), "\n")
	for n := 1; n <= len(lines); n++ {
		var got []string
		for l := range bl.Lines(m) {
			if got = append(got, l); len(got) == n {
				break
			}
		}
		is(t, "Lines, as far as they are asked", strings.Join(got, "\n"), strings.Join(lines[:n], "\n"))
	}
	is(t, "Head", bl.Head(m, 0), "fn g(share S, int) -> share T from 0 {")
	is(t, "Head", bl.Head(m, 1), "fn main() -> int {")
	is(t, "Instr of g", bl.Instr(m, 0, 0)+", "+bl.Instr(m, 0, 1), "take x2 share x0 t, ret share x2")
	for at := range m.Funcs[1].Ins {
		is(t, "Instr", fmt.Sprintf("  %d %s", at, bl.Instr(m, 1, at)), lines[19+at])
	}
	for _, n := range []int{-1, 2, 18, math.MinInt, math.MaxInt} {
		is(t, "what is not there", bl.Head(m, n)+bl.Instr(m, n, 0)+bl.Instr(m, 0, n), "")
	}
	m.Funcs[1].Ins[0].N = math.MinInt64
	is(t, "a number below 0", bl.Instr(m, 1, 0), fmt.Sprint("num x0 ", math.MinInt64))
	m.Structs[0].Name, m.Structs[0].Fields[1].T.To = "mut", "mut"
	for f := range m.Funcs {
		for v, x := range m.Funcs[f].Vars {
			if x.T.To == "S" {
				m.Funcs[f].Vars[v].T.To = "mut"
			}
		}
	}
	m.Funcs[0].Vars[1], m.Funcs[1].Vars[4] = api.Var{T: to("mut"), Class: api.Mut}, api.Var{T: to("mut"), Class: api.Mut}
	m.Funcs[0].From = []int{0, 1}
	is(t, "Head with words as names", bl.Head(api.Module{Structs: m.Structs, Funcs: []api.Code{m.Funcs[0], {Name: "main", Vars: []api.Var{{}}, Ins: []api.Instr{{Op: api.Ret}}}}}, 0), "fn g(share mut, mut mut) -> share T from 0 1 {")
}

// formedChance: some formed program.
func formedChance(r *rand.Rand, m api.Module) api.Module {
	m = mixed(r, m, false)
	for f := range m.Funcs {
		c := &m.Funcs[f]
		c.From = nil
		for p := range c.Params {
			if lentAgain(c.Ret) && lentAgain(c.Vars[p]) && r.IntN(2) == 0 {
				c.From = append(c.From, p)
			}
		}
		for at := range c.Ins {
			i := &c.Ins[at]
			mode := func(v int) int { return (1 + r.IntN(3)) * btoi(c.Vars[v].T.Ptr) }
			i.Mode = nil
			switch {
			case i.Op == api.Give || i.Op == api.Take || i.Op == api.Ret && c.Ret.T.Ptr:
				i.Mode = []int{1 + r.IntN(3)}
			case i.Op == api.Call:
				for _, a := range i.Args {
					i.Mode = append(i.Mode, mode(a))
				}
			}
		}
	}
	return m
}

// nudgeBl: changes one thing of a program.
func nudgeBl(r *rand.Rand, m *api.Module) {
	c := &m.Funcs[r.IntN(len(m.Funcs))]
	i := &c.Ins[r.IntN(len(c.Ins))]
	switch r.IntN(14) {
	case 0:
		if len(c.Vars) > 0 {
			c.Vars[r.IntN(len(c.Vars))].Class = r.IntN(4)
		}
	case 1:
		c.Ret.Class = r.IntN(4)
	case 2:
		c.From = nil
	case 3:
		i.D = r.IntN(len(c.Vars) + 1)
	case 4:
		i.A = r.IntN(len(c.Vars) + 1)
	case 5:
		i.B = r.IntN(len(c.Vars) + 1)
	case 6:
		i.F = r.IntN(4)
	case 7:
		i.To = r.IntN(len(c.Ins))
	case 8:
		i.Else = r.IntN(len(c.Ins))
	case 9:
		i.N = int64(r.IntN(5))
	case 10:
		i.Sign = pick(r, []string{"+", "-", "==", "!="})
	case 11:
		if len(i.Mode) > 0 {
			i.Mode[r.IntN(len(i.Mode))] = 1 + r.IntN(3)
		}
	case 12:
		c.Params = r.IntN(len(c.Vars) + 1)
	case 13:
		i.Op = 1 + r.IntN(18)
	}
}

// bare: an instruction without what its operation has not.
func bare(m api.Module) api.Module {
	m = cloned(m)
	for f := range m.Funcs {
		for at, i := range m.Funcs[f].Ins {
			j := api.Instr{Op: i.Op, Mode: i.Mode}
			if _, is := writesAgain(i); is {
				j.D = i.D
			}
			switch i.Op {
			case api.Bin, api.Store, api.Set:
				j.A, j.B = i.A, i.B
			case api.Copy, api.Put, api.Load, api.Give, api.Take, api.Free, api.IsNull, api.Branch, api.Ret:
				j.A = i.A
			}
			switch i.Op {
			case api.Load, api.Store, api.Take, api.Set, api.New, api.Call:
				j.F = i.F
			}
			switch i.Op {
			case api.Num:
				j.N = i.N
			case api.Bin, api.IsNull:
				j.Sign = i.Sign
			case api.Call:
				j.Args = i.Args
			case api.Jump:
				j.To = i.To
			case api.Branch:
				j.To, j.Else = i.To, i.Else
			}
			m.Funcs[f].Ins[at] = j
		}
	}
	return m
}

func TestP2003Texts(t *testing.T) {
	t.Parallel()
	others := 0
	for seed, m := range someModules(400) {
		r := dice(uint64(seed))
		m = formedChance(r, m)
		is(t, "formed", bl.Formed(m), api.OK)
		text := bl.Text(m)
		for range 20 {
			n := cloned(m)
			nudgeBl(r, &n)
			if bl.Formed(n) != api.OK {
				continue
			}
			alike := ir.Same(bare(m), bare(n))
			is(t, "another text, if it is not alike", bl.Text(n) == text, alike)
			others += btoi(!alike)
		}
	}
	must(t, "there were others", others > 500)
}
