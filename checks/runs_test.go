package checks

import (
	"usufruct/api"
)

// heap: cells, by numbers from 1 on; 0 is null.
type heap struct {
	cells []map[string]int64
	dead  map[int64]bool
	made  int
	fails []bool
	in    []byte
	out   []byte
}

// Ways in which a run breaks off.
type runUndefined struct{}
type runOver struct{}

func (h *heap) make() int64 {
	k := h.made
	h.made++
	if k < len(h.fails) && h.fails[k] {
		return 0
	}
	h.cells = append(h.cells, map[string]int64{})
	return int64(len(h.cells))
}

func (h *heap) at(p int64) map[string]int64 {
	if p == 0 || h.dead[p] {
		panic(runUndefined{})
	}
	return h.cells[p-1]
}

func (h *heap) free(p int64) {
	if p != 0 {
		h.at(p)
		h.dead[p] = true
	}
}

func (h *heap) get() int64 {
	if len(h.in) == 0 {
		return -1
	}
	b := h.in[0]
	h.in = h.in[1:]
	return int64(b)
}

// wrapAgain: as 32 bits.
func wrapAgain(n int64) int64 {
	const all = int64(1) << 32
	n = (n%all + all) % all
	if n >= all/2 {
		n -= all
	}
	return n
}

func signAgain(op string, a, b int64) int64 {
	switch op {
	case "+":
		return wrapAgain(a + b)
	case "-":
		return wrapAgain(a - b)
	case "*":
		return wrapAgain(a * b)
	case "/", "%":
		if b == 0 {
			panic(runUndefined{})
		}
		q := abs(a) / abs(b)
		if (a < 0) != (b < 0) {
			q = -q
		}
		if op == "/" {
			return wrapAgain(q)
		}
		return wrapAgain(a - q*b)
	}
	is := map[string]bool{"<": a < b, "<=": a <= b, ">": a > b, ">=": a >= b, "==": a == b, "!=": a != b}[op]
	return int64(btoi(is))
}

func abs(n int64) int64 {
	if n < 0 {
		return -n
	}
	return n
}

// tree: runs a program's statements as they stand.
type tree struct {
	heap
	p     api.Prog
	steps int
	most  int
}

// treeRun: what a program does, by its statements; false: it takes more than that many steps.
func treeRun(p api.Prog, in []byte, fails []bool, most int) (o api.Outcome, ends bool) {
	t := &tree{heap: heap{dead: map[int64]bool{}, in: in, fails: fails}, p: p, most: most}
	defer func() {
		o.Out, o.Left, o.Steps = t.out, len(t.cells)-len(t.dead), t.steps
		switch e := recover().(type) {
		case runUndefined:
			o.Kind, ends = 2, true
		case runOver:
			o.Kind = 4
		case nil:
		default:
			panic(e)
		}
	}()
	o.Code = t.call("main", nil)
	o.Kind = 1
	return o, true
}

func (t *tree) step() {
	if t.steps++; t.steps > t.most {
		panic(runOver{})
	}
}

func (t *tree) call(name string, args []int64) int64 {
	for _, f := range t.p.Funcs {
		if f.Name == name {
			vars := map[string]int64{}
			for i, p := range f.Params {
				vars[p.Name] = args[i]
			}
			v, _ := t.list(f.Body, vars)
			return v
		}
	}
	panic("no function")
}

func (t *tree) expr(e api.Expr, vars map[string]int64) int64 {
	t.step()
	var kids []int64
	for _, k := range e.Kids {
		kids = append(kids, t.expr(k, vars))
	}
	switch e.Kind {
	case 1:
		return e.N
	case 2:
		return vars[e.Name]
	case 3:
		return t.at(kids[0])[e.Name]
	case 4:
		return signAgain(e.Op, kids[0], kids[1])
	case 5:
		if e.Op == "-" {
			return signAgain("-", 0, kids[0])
		}
		return int64(btoi(kids[0] == 0))
	case 7:
		return t.make()
	case 8:
		return t.get()
	case 9:
		return t.call(e.Name, kids)
	}
	return 0
}

// list: the statements; the value of a return, and the Kind of the statement that ended it, 0: none did.
func (t *tree) list(l []api.Stmt, vars map[string]int64) (int64, int) {
	for _, s := range l {
		t.step()
		var e []int64
		if s.Kind != 5 {
			for _, x := range s.E {
				e = append(e, t.expr(x, vars))
			}
		}
		switch s.Kind {
		case 1, 2:
			vars[s.Name] = e[0]
		case 3:
			t.at(e[0])[s.Name] = e[1]
		case 4:
			body := s.Else
			if e[0] != 0 {
				body = s.Body
			}
			if v, k := t.list(body, vars); k != 0 {
				return v, k
			}
		case 5:
			for t.expr(s.E[0], vars) != 0 {
				v, k := t.list(s.Body, vars)
				if k == 8 {
					return v, k
				}
				if k == 6 {
					break
				}
			}
		case 6, 7:
			return 0, s.Kind
		case 8:
			return e[0], 8
		case 9:
			t.free(vars[s.Name])
		case 10:
			t.out = append(t.out, byte(e[0]))
		}
	}
	return 0, 0
}

// plainRun: runs instructions, by functions that call one another.
type plainRun struct {
	heap
	m     api.Module
	steps int
	fuel  int
	sites [][2]int                         // of each cell the function and the instruction that made it
	look  func(f, at int, v map[int]int64) // what is asked behind each instruction
}

// machineAgain: what a program of the first language does in at most fuel steps.
func machineAgain(m api.Module, in []byte, fails []bool, fuel int) (o api.Outcome) {
	return (&plainRun{heap: heap{dead: map[int64]bool{}, in: in, fails: fails}, m: m, fuel: fuel}).run()
}

func (r *plainRun) run() (o api.Outcome) {
	defer func() {
		o.Out, o.Left, o.Steps = r.out, len(r.cells)-len(r.dead), r.steps
		switch e := recover().(type) {
		case runUndefined:
			o.Kind = 2
		case runOver:
			o.Kind = 4
		case nil:
		default:
			panic(e)
		}
	}()
	for f, c := range r.m.Funcs {
		if c.Name == "main" {
			o.Code = r.call(f, nil)
		}
	}
	o.Kind = 1
	return o
}

func (r *plainRun) call(f int, args []int64) int64 {
	c := r.m.Funcs[f]
	v := map[int]int64{}
	for i, a := range args {
		v[i] = a
	}
	for at := 0; ; at++ {
		if r.steps >= r.fuel {
			panic(runOver{})
		}
		r.steps++
		i := c.Ins[at]
		field := string(rune('a' + i.F))
		switch i.Op {
		case api.Num:
			v[i.D] = wrapAgain(i.N)
		case api.Null:
			v[i.D] = 0
		case api.Copy, api.Give:
			v[i.D] = v[i.A]
		case api.Bin:
			v[i.D] = signAgain(i.Sign, v[i.A], v[i.B])
		case api.Get:
			v[i.D] = r.get()
		case api.Put:
			r.out = append(r.out, byte(v[i.A]))
		case api.Load, api.Take:
			v[i.D] = r.at(v[i.A])[field]
		case api.Store, api.Set:
			r.at(v[i.A])[field] = v[i.B]
		case api.New:
			v[i.D] = r.make()
			if v[i.D] != 0 {
				r.sites = append(r.sites, [2]int{f, at})
			}
		case api.Free:
			r.free(v[i.A])
		case api.IsNull:
			v[i.D] = int64(btoi((v[i.A] == 0) == (i.Sign == "==")))
		case api.Call:
			var args []int64
			for _, a := range i.Args {
				args = append(args, v[a])
			}
			v[i.D] = r.call(i.F, args)
		case api.Jump:
			at = i.To - 1
		case api.Branch:
			at = i.Else - 1
			if v[i.A] != 0 {
				at = i.To - 1
			}
		case api.Ret:
			return v[i.A]
		}
		if r.look != nil {
			r.look(f, at, v)
		}
	}
}
