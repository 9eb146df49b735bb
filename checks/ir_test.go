package checks

import (
	"fmt"
	"math"
	"math/rand/v2"
	"strings"
	"testing"

	"usufruct/api"
	"usufruct/ir"
)

// cell: a variable that is a pointer to a struct.
func cell(name string) api.Var { return api.Var{T: to(name)} }

// everyOp: a right module in which each operation stands.
func everyOp() api.Module {
	i, s, t := api.Var{}, cell("S"), cell("T")
	return api.Module{
		Structs: []api.Struct{
			{Name: "S", Fields: []api.Field{{Name: "v"}, {Name: "n", T: to("S")}, {Name: "t", T: to("T")}}},
			{Name: "T", Fields: []api.Field{{Name: "v"}}},
		},
		Funcs: []api.Code{
			{Name: "g", Params: 2, Vars: []api.Var{s, i, t}, Ret: t, Ins: []api.Instr{
				{Op: api.Take, D: 2, A: 0, F: 2},
				{Op: api.Ret, A: 2},
			}},
			{Name: "main", Vars: []api.Var{i, s, s, t, i}, Ins: []api.Instr{
				{Op: api.Num, D: 0, N: 7},
				{Op: api.Null, D: 2},
				{Op: api.Copy, D: 4, A: 0},
				{Op: api.Bin, D: 0, A: 0, B: 4, Sign: "+"},
				{Op: api.Get, D: 0},
				{Op: api.Put, A: 0},
				{Op: api.New, D: 1, F: 0},
				{Op: api.Load, D: 0, A: 1, F: 0},
				{Op: api.Store, A: 1, B: 0, F: 0},
				{Op: api.Give, D: 2, A: 1},
				{Op: api.Take, D: 2, A: 1, F: 1},
				{Op: api.Set, A: 1, B: 2, F: 1},
				{Op: api.IsNull, D: 4, A: 2, Sign: "=="},
				{Op: api.Call, D: 3, F: 0, Args: []int{1, 4}},
				{Op: api.Branch, A: 4, To: 15, Else: 16},
				{Op: api.Jump, To: 0},
				{Op: api.Free, A: 1},
				{Op: api.Ret, A: 0},
			}},
		},
	}
}

// at: the first instruction of main that is of an operation.
func at(m api.Module, op int) *api.Instr {
	l := m.Funcs[len(m.Funcs)-1].Ins
	for k := range l {
		if l[k].Op == op {
			return &l[k]
		}
	}
	return nil
}

func TestP501Right(t *testing.T) {
	t.Parallel()
	is(t, "a module with each operation", ir.Right(everyOp()), api.OK)
	one := api.Module{Funcs: []api.Code{{Name: "main", Vars: []api.Var{{}}, Ins: []api.Instr{{Op: api.Num, N: 7}, {Op: api.Ret}}}}}
	is(t, "the example", ir.Right(one), api.OK)
	is(t, "nothing", ir.Right(api.Module{}), api.NoMain)
	type change func(m *api.Module, main *api.Code)
	for _, c := range []struct {
		what string
		want api.Fault
		by   change
	}{
		{"no main", api.NoMain, func(m *api.Module, c *api.Code) { c.Name = "Main" }},
		{"main has parameters", api.NoMain, func(m *api.Module, c *api.Code) { c.Params = 1 }},
		{"main gives a pointer", api.NoMain, func(m *api.Module, c *api.Code) { c.Ret = cell("S"); c.Ins[17].A = 1 }},
		{"params below 0", api.Loose, func(m *api.Module, c *api.Code) { m.Funcs[0].Params = -1 }},
		{"params above", api.Loose, func(m *api.Module, c *api.Code) { m.Funcs[0].Params = 4 }},
		{"main's params above", api.Loose, func(m *api.Module, c *api.Code) { c.Params = 6 }},
		{"params of all variables", api.NoMain, func(m *api.Module, c *api.Code) { c.Params = 5 }},
		{"no instruction", api.TooLarge, func(m *api.Module, c *api.Code) { c.Ins = nil }},
		{"a field of no struct", api.Unknown, func(m *api.Module, c *api.Code) { m.Structs[1].Fields[0].T = to("U") }},
		{"a field that is a number to something", api.Unknown, func(m *api.Module, c *api.Code) { m.Structs[1].Fields[0].T.To = "S" }},
		{"a result of no struct", api.Unknown, func(m *api.Module, c *api.Code) { c.Ret.T = to("") }},
		{"a result that is a number to something", api.Unknown, func(m *api.Module, c *api.Code) { c.Ret.T.To = "x" }},
		{"a variable of no struct", api.Unknown, func(m *api.Module, c *api.Code) { c.Vars[4].T = to("s") }},
		{"a variable that is a number to something", api.Unknown, func(m *api.Module, c *api.Code) { c.Vars[4].T.To = "T" }},
		{"two structs", api.Twice, func(m *api.Module, c *api.Code) { m.Structs[0].Name = "T"; c.Vars[0].T = to("U") }},
		{"two fields", api.Twice, func(m *api.Module, c *api.Code) { m.Structs[0].Fields[2].Name = "v"; c.Vars[0].T = to("U") }},
		{"two functions", api.Twice, func(m *api.Module, c *api.Code) { m.Funcs[0].Name = "main"; c.Vars[0].T = to("U") }},
		{"a call of what has no more variables than parameters", api.OK, func(m *api.Module, c *api.Code) {
			m.Funcs[0].Vars, m.Funcs[0].Ret = m.Funcs[0].Vars[:2], cell("S")
			m.Funcs[0].Ins = []api.Instr{{Op: api.Ret, A: 0}}
			at(*m, api.Call).D = 1
		}},
		{"one name for a field and a struct", api.OK, func(m *api.Module, c *api.Code) { m.Structs[0].Fields[2].Name = "S" }},
		{"one field in two structs", api.OK, func(m *api.Module, c *api.Code) { m.Structs[0].Fields[2].Name = "w" }},
		{"Unknown ahead of TooLarge", api.Unknown, func(m *api.Module, c *api.Code) { m.Funcs[0].Ins = nil; c.Vars[0].T = to("U") }},
		{"functions in order", api.TooLarge, func(m *api.Module, c *api.Code) { m.Funcs[0].Ins = nil; c.Ins[0].D = 9 }},
		{"functions in order, the other way", api.Loose, func(m *api.Module, c *api.Code) { m.Funcs[0].Ins[0].D = 9; c.Ins = nil }},
		{"TooLarge ahead of Loose", api.TooLarge, func(m *api.Module, c *api.Code) { c.Params = 9; c.Ins = nil }},
		{"params ahead of instructions", api.Loose, func(m *api.Module, c *api.Code) { c.Params = -1; c.Ins[0].Op = 0 }},
		{"the last one goes on", api.Loose, func(m *api.Module, c *api.Code) { c.Ins = c.Ins[:17] }},
		{"the last one is a call", api.Loose, func(m *api.Module, c *api.Code) { c.Ins[17] = c.Ins[13] }},
		{"the last one is a jump", api.OK, func(m *api.Module, c *api.Code) { c.Ins[17] = api.Instr{Op: api.Jump} }},
		{"the last one is a branch", api.OK, func(m *api.Module, c *api.Code) { c.Ins[17] = api.Instr{Op: api.Branch, A: 0} }},
		{"an instruction ahead of the last one", api.Odd, func(m *api.Module, c *api.Code) { c.Ins[16].Op = 19; c.Ins = c.Ins[:17] }},
		{"NoMain at last", api.Loose, func(m *api.Module, c *api.Code) { c.Name = "f"; c.Ins[17].A = 9 }},
		{"instructions in order", api.Odd, func(m *api.Module, c *api.Code) { c.Ins[0].Op = 0; c.Ins[1].D = 9 }},
		{"what has no meaning may be anything", api.OK, func(m *api.Module, c *api.Code) {
			for k := range c.Ins {
				c.Ins[k].N, c.Ins[k].Mode, c.Ins[k].At.Line = 9, []int{5}, -3
			}
			c.Ins[0].A, c.Ins[0].B, c.Ins[0].To, c.Ins[0].Args, c.Ins[0].Sign = 99, -5, 77, []int{9}, "?"
			c.From, c.Vars[0].Class, c.Ret.Class = []int{9, 9}, 7, -1
		}},
	} {
		m := everyOp()
		c.by(&m, &m.Funcs[1])
		is(t, c.what, ir.Right(m), c.want)
	}
}

func TestP501Many(t *testing.T) {
	t.Parallel()
	structs := func(n int) (l []api.Struct) {
		for k := range n {
			l = append(l, api.Struct{Name: fmt.Sprint("K", k)})
		}
		return l
	}
	m := everyOp()
	m.Structs = append(m.Structs, structs(28)...)
	is(t, "30 structs", ir.Right(m), api.OK)
	m.Structs = append(m.Structs, structs(1)...)
	is(t, "31 structs, and a name twice", ir.Right(m), api.TooLarge)
	m = everyOp()
	for k := range 58 {
		c := m.Funcs[0]
		c.Name = fmt.Sprint("h", k)
		m.Funcs = append(m.Funcs, c)
	}
	is(t, "60 functions", ir.Right(m), api.OK)
	m.Funcs = append(m.Funcs, m.Funcs[0])
	is(t, "61 functions, and a name twice", ir.Right(m), api.TooLarge)
	m = everyOp()
	m.Funcs[1].Vars = append(m.Funcs[1].Vars, make([]api.Var, 295)...)
	is(t, "300 variables", ir.Right(m), api.OK)
	m.Funcs[1].Vars = append(m.Funcs[1].Vars, api.Var{})
	is(t, "301 variables", ir.Right(m), api.TooLarge)
	m = everyOp()
	for len(m.Funcs[1].Ins) < 3000 {
		m.Funcs[1].Ins = append(m.Funcs[1].Ins, api.Instr{Op: api.Ret})
	}
	is(t, "3000 instructions", ir.Right(m), api.OK)
	m.Funcs[1].Ins = append(m.Funcs[1].Ins, api.Instr{Op: api.Ret})
	is(t, "3001 instructions", ir.Right(m), api.TooLarge)
}

// opRules: what each operation asks: its variables (D, A, B by their letters) with what they must be: i a number, p a pointer, f what the field is, s what the struct is.
var opRules = map[int]string{
	api.Num: "Di", api.Null: "Dp", api.Copy: "Di Ai", api.Bin: "Di Ai Bi sign", api.Get: "Di", api.Put: "Ai",
	api.Load: "Di A field Fi", api.Store: "A Bi field Fi", api.Give: "D Ap same", api.Take: "D A field Fp is", api.Set: "A B field Fp is",
	api.New: "D struct", api.Free: "Ap", api.IsNull: "Di Ap equal", api.Call: "D call", api.Jump: "To", api.Branch: "Ai To Else", api.Ret: "A ret",
}

// instrAgain: what is wrong with an instruction, found in another way.
func instrAgain(m api.Module, c api.Code, i api.Instr) api.Fault {
	rule, is := opRules[i.Op]
	if !is {
		return api.Odd
	}
	words := strings.Fields(rule)
	slot := map[byte]int{'D': i.D, 'A': i.A, 'B': i.B}
	out := func(v, n int) bool { return v < 0 || v >= n }
	var loose, typed, odd bool
	for _, w := range words {
		switch w[0] {
		case 'D', 'A', 'B':
			loose = loose || out(slot[w[0]], len(c.Vars))
		}
		switch w {
		case "To":
			loose = loose || out(i.To, len(c.Ins))
		case "Else":
			loose = loose || out(i.Else, len(c.Ins))
		case "struct":
			loose = loose || out(i.F, len(m.Structs))
		case "call":
			loose = loose || out(i.F, len(m.Funcs))
			for _, a := range i.Args {
				loose = loose || out(a, len(c.Vars))
			}
		}
	}
	if loose {
		return api.Loose
	}
	kind := func(v int) api.Type { return c.Vars[v].T }
	var field api.Type
	for _, w := range words {
		switch {
		case w == "field":
			if !kind(i.A).Ptr {
				return api.Mistyped
			}
			for _, s := range m.Structs {
				if s.Name == kind(i.A).To {
					if out(i.F, len(s.Fields)) {
						return api.Loose
					}
					field = s.Fields[i.F].T
				}
			}
		case w == "Fi":
			typed = typed || field.Ptr
		case w == "Fp":
			typed = typed || !field.Ptr
		case w == "is" && i.Op == api.Take:
			typed = typed || kind(i.D) != field
		case w == "is":
			typed = typed || kind(i.B) != field
		case w == "same":
			typed = typed || kind(i.D) != kind(i.A)
		case w == "struct":
			typed = typed || kind(i.D) != to(m.Structs[i.F].Name)
		case w == "ret":
			typed = typed || kind(i.A) != c.Ret.T
		case w == "call":
			f := m.Funcs[i.F]
			if len(i.Args) != f.Params || f.Params > len(f.Vars) {
				return api.Mistyped
			}
			for k, a := range i.Args {
				typed = typed || kind(a) != f.Vars[k].T
			}
			typed = typed || kind(i.D) != f.Ret.T
		case w == "sign":
			odd = !strings.Contains(" + - * / % < <= > >= == != ", " "+i.Sign+" ") || i.Sign == ""
		case w == "equal":
			odd = i.Sign != "==" && i.Sign != "!="
		case len(w) == 2 && w[1] == 'i':
			typed = typed || kind(slot[w[0]]).Ptr
		case len(w) == 2 && w[1] == 'p':
			typed = typed || !kind(slot[w[0]]).Ptr
		}
	}
	switch {
	case typed:
		return api.Mistyped
	case odd:
		return api.Odd
	}
	return api.OK
}

// firstAgain: the first instruction's fault of all that have one.
func firstAgain(m api.Module) api.Fault {
	for _, c := range m.Funcs {
		for _, i := range c.Ins {
			if f := instrAgain(m, c, i); f != api.OK {
				return f
			}
		}
	}
	return api.OK
}

func nudgeInstr(r *rand.Rand, i *api.Instr) {
	any := func() int { return pick(r, []int{0, 1, 2, 3, 4, 5, 16, 17, 18, -1, math.MinInt, math.MaxInt}) }
	switch r.IntN(10) {
	case 0:
		i.D = any()
	case 1, 2:
		i.A = any()
	case 3:
		i.B = any()
	case 4, 5:
		i.F = any()
	case 6:
		i.To = any()
	case 7:
		i.Else = any()
	case 8:
		i.Sign = pick(r, strings.Split("+,-,*,/,%,<,<=,>,>=,==,!=,,=,!,<>,+ ", ","))
	case 9:
		i.Args = []int{any(), any(), any()}[:r.IntN(4)]
	}
}

func TestP501Chance(t *testing.T) {
	t.Parallel()
	found := map[string]int{}
	for seed := range uint64(20000) {
		r := dice(seed)
		m := everyOp()
		c := &m.Funcs[1]
		k := r.IntN(len(c.Ins) - 1)
		if r.IntN(8) == 0 {
			c.Ins[k].Op = pick(r, []int{-1, 0, 19, 20, math.MaxInt, math.MinInt, 1 + r.IntN(18)})
		} else {
			for range 1 + r.IntN(2) {
				nudgeInstr(r, &c.Ins[k])
			}
		}
		switch r.IntN(20) {
		case 0:
			m.Funcs[0].Params = r.IntN(4)
		case 1:
			m.Funcs[0].Vars[1] = cell("S")
		}
		want := firstAgain(m)
		found[fmt.Sprint(ir.Word(c.Ins[k].Op), want)]++
		is(t, fmt.Sprintf("%+v", c.Ins[k]), ir.Right(m), want)
	}
	for _, w := range strings.Fields("num15 num7 null15 null7 copy15 copy7 bin15 bin7 bin3 get15 put15 put7 load15 load7 store15 store7 give15 give7 take15 take7 set15 set7 new15 new7 free15 free7 isnull15 isnull7 isnull3 call15 call7 jump15 branch15 branch7") {
		must(t, "some of "+w, found[w] > 0)
	}
}

func TestP502Reads(t *testing.T) {
	t.Parallel()
	i := api.Instr{D: 1, A: 2, B: 3, F: 4, Args: []int{5, 6, 5}, To: 7, Else: 8}
	for _, c := range []struct {
		op     int
		word   string
		reads  string
		writes bool
		next   string
	}{
		{api.Num, "num", "[]", true, "[10]"}, {api.Null, "null", "[]", true, "[10]"}, {api.Copy, "copy", "[2]", true, "[10]"}, {api.Bin, "bin", "[2 3]", true, "[10]"},
		{api.Get, "get", "[]", true, "[10]"}, {api.Put, "put", "[2]", false, "[10]"}, {api.Load, "load", "[2]", true, "[10]"}, {api.Store, "store", "[2 3]", false, "[10]"},
		{api.Give, "give", "[2]", true, "[10]"}, {api.Take, "take", "[2]", true, "[10]"}, {api.Set, "set", "[2 3]", false, "[10]"}, {api.New, "new", "[]", true, "[10]"},
		{api.Free, "free", "[2]", false, "[10]"}, {api.IsNull, "isnull", "[2]", true, "[10]"}, {api.Call, "call", "[5 6 5]", true, "[10]"}, {api.Jump, "jump", "[]", false, "[7]"},
		{api.Branch, "branch", "[2]", false, "[7 8]"}, {api.Ret, "ret", "[2]", false, "[]"}, {0, "", "[]", false, "[10]"}, {19, "", "[]", false, "[10]"}, {-1, "", "[]", false, "[10]"},
		{math.MaxInt, "", "[]", false, "[10]"}, {math.MinInt, "", "[]", false, "[10]"},
	} {
		i.Op = c.op
		is(t, "Word", ir.Word(c.op), c.word)
		is(t, "Reads of "+c.word, ir.Reads(i), c.reads)
		v, is1 := ir.Writes(i)
		want := 0
		if c.writes {
			want = 1
		}
		is(t, "Writes of "+c.word, fmt.Sprint(v, is1), fmt.Sprint(want, c.writes))
		is(t, "Next of "+c.word, ir.Next(i, 9), c.next)
	}
	is(t, "a branch to one place", ir.Next(api.Instr{Op: api.Branch, To: 3, Else: 3}, 1), "[3]")
	is(t, "a branch backwards", ir.Next(api.Instr{Op: api.Branch, To: 9, Else: 3}, 1), "[9 3]")
	is(t, "places that are none", ir.Next(api.Instr{Op: api.Jump, To: -5}, -7), "[-5]")
	is(t, "behind -1", ir.Next(api.Instr{Op: api.Num}, -1), "[0]")
	must(t, "behind the last number nothing is reckoned", len(ir.Next(api.Instr{Op: api.Num}, math.MaxInt)) <= 1)
	args := []int{5, 6}
	got := ir.Reads(api.Instr{Op: api.Call, Args: args})
	got[0] = 9
	is(t, "Args are not handed out", args, "[5 6]")
}

func TestP502Edges(t *testing.T) {
	t.Parallel()
	m := everyOp()
	all := "0>1 1>2 2>3 3>4 4>5 5>6 6>7 7>8 8>9 9>10 10>11 11>12 12>13 13>14 14>15 14>16 15>0 16>17"
	var got []string
	for a, b := range ir.Edges(m.Funcs[1]) {
		got = append(got, fmt.Sprintf("%d>%d", a, b))
	}
	is(t, "Edges", strings.Join(got, " "), all)
	got = nil
	for a, b := range ir.Edges(m.Funcs[1]) {
		if got = append(got, fmt.Sprintf("%d>%d", a, b)); len(got) == 15 {
			break
		}
	}
	is(t, "Edges, as far as they are asked", strings.Join(got, " "), strings.Join(strings.Fields(all)[:15], " "))
	odd := api.Code{Ins: []api.Instr{{Op: api.Branch, To: -4, Else: 70}, {Op: 99}, {Op: api.Num}}}
	got = nil
	for a, b := range ir.Edges(odd) {
		got = append(got, fmt.Sprintf("%d>%d", a, b))
	}
	is(t, "Edges to what is not there", strings.Join(got, " "), "0>-4 0>70 1>2 2>3")
	for range ir.Edges(api.Code{}) {
		t.Error("an edge of nothing")
	}
}

func TestP503Names(t *testing.T) {
	t.Parallel()
	m := everyOp()
	m.Structs = append(m.Structs, api.Struct{Name: "S"})
	m.Funcs = append(m.Funcs, api.Code{Name: "g"})
	is(t, "Func", fmt.Sprint(ir.Func(m, "g"), ir.Func(m, "main"), ir.Func(m, "S"), ir.Func(m, "")), "0 1 -1 -1")
	is(t, "Struct", fmt.Sprint(ir.Struct(m, "S"), ir.Struct(m, "T"), ir.Struct(m, "g"), ir.Struct(m, "")), "0 1 -1 -1")
}

func TestP503Same(t *testing.T) {
	t.Parallel()
	a, b := everyOp(), everyOp()
	place := api.Pos{Line: 4, Col: 5}
	b.Structs[0].At, b.Structs[1].Fields[0].At, b.Funcs[1].Ins[3].At = place, place, place
	b.Funcs[0].From, b.Funcs[1].Ins[0].Args = []int{}, []int{}
	must(t, "alike but for places", ir.Same(a, b) && ir.Same(b, a))
	must(t, "nothing", ir.Same(api.Module{}, api.Module{Structs: []api.Struct{}, Funcs: []api.Code{}}))
	for k, by := range []func(m *api.Module){
		func(m *api.Module) { m.Structs = m.Structs[:1] },
		func(m *api.Module) { m.Structs[1].Name = "U" },
		func(m *api.Module) { m.Structs[1].Fields[0].Name = "U" },
		func(m *api.Module) { m.Structs[1].Fields[0].T.Ptr = true },
		func(m *api.Module) { m.Structs[1].Fields[0].T.To = "U" },
		func(m *api.Module) { m.Structs[1].Fields = nil },
		func(m *api.Module) { m.Funcs = m.Funcs[:1] },
		func(m *api.Module) { m.Funcs[0], m.Funcs[1] = m.Funcs[1], m.Funcs[0] },
	} {
		c := everyOp()
		by(&c)
		must(t, fmt.Sprint("not the same module ", k), !ir.Same(a, c) && !ir.Same(c, a))
	}
	for k, by := range []func(c *api.Code, i *api.Instr){
		func(c *api.Code, i *api.Instr) { c.Name = "f" },
		func(c *api.Code, i *api.Instr) { c.Params++ },
		func(c *api.Code, i *api.Instr) { c.Vars = c.Vars[:4] },
		func(c *api.Code, i *api.Instr) { c.Vars[4].Class = 1 },
		func(c *api.Code, i *api.Instr) { c.Vars[4].T.Ptr = true },
		func(c *api.Code, i *api.Instr) { c.Vars[4].T.To = "S" },
		func(c *api.Code, i *api.Instr) { c.Ret.Class = 1 },
		func(c *api.Code, i *api.Instr) { c.Ret.T.Ptr = true },
		func(c *api.Code, i *api.Instr) { c.From = []int{0} },
		func(c *api.Code, i *api.Instr) { c.Ins = c.Ins[:17] },
		func(c *api.Code, i *api.Instr) { i.Op++ },
		func(c *api.Code, i *api.Instr) { i.D++ },
		func(c *api.Code, i *api.Instr) { i.A++ },
		func(c *api.Code, i *api.Instr) { i.B++ },
		func(c *api.Code, i *api.Instr) { i.F++ },
		func(c *api.Code, i *api.Instr) { i.N++ },
		func(c *api.Code, i *api.Instr) { i.Sign = "+" },
		func(c *api.Code, i *api.Instr) { i.Args = []int{1, 2} },
		func(c *api.Code, i *api.Instr) { i.Args = i.Args[:1] },
		func(c *api.Code, i *api.Instr) { i.Mode = []int{0} },
		func(c *api.Code, i *api.Instr) { i.To++ },
		func(c *api.Code, i *api.Instr) { i.Else++ },
	} {
		c := everyOp()
		by(&c.Funcs[1], at(c, api.Call))
		must(t, fmt.Sprint("not the same function ", k), !ir.Same(a, c) && !ir.SameCode(a.Funcs[1], c.Funcs[1]) && !ir.SameCode(c.Funcs[1], a.Funcs[1]))
		must(t, "the other one is the same", ir.SameCode(a.Funcs[0], c.Funcs[0]))
	}
}
