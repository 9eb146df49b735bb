package checks

import (
	"fmt"
	"math/rand/v2"

	"usufruct/api"
)

// borrower: makes programs of the second language whose uses mostly fit, and whose variables are mostly there.
type borrower struct {
	r *rand.Rand
	m api.Module
	c *api.Code
}

// borrowing: a program of the second language for a seed.
func borrowing(seed uint64) api.Module {
	b := &borrower{r: dice(seed)}
	b.m.Structs = []api.Struct{{Name: "S", Fields: []api.Field{{Name: "v"}, {Name: "n", T: to("S")}, {Name: "m", T: to("S")}}}}
	heads := 1 + b.r.IntN(2)
	for k := range heads {
		c := api.Code{Name: fmt.Sprint("f", k), Params: b.r.IntN(4), Ret: b.variable()}
		for range c.Params {
			c.Vars = append(c.Vars, b.variable())
		}
		b.m.Funcs = append(b.m.Funcs, c)
	}
	b.m.Funcs = append(b.m.Funcs, api.Code{Name: "main"})
	for f := range b.m.Funcs {
		b.c = &b.m.Funcs[f]
		b.body()
	}
	return byClasses(b.m)
}

func (b *borrower) variable() api.Var {
	class := b.r.IntN(4)
	if class == 0 {
		return api.Var{}
	}
	return api.Var{T: to("S"), Class: class}
}

// some: one of the variables whose class is one of these; false: there is none.
func (b *borrower) some(classes ...int) (int, bool) {
	var l []int
	for v, x := range b.c.Vars {
		for _, class := range classes {
			if x.Class == class {
				l = append(l, v)
			}
		}
	}
	if len(l) == 0 {
		return 0, false
	}
	return pick(b.r, l), true
}

// fitting: one of the variables that a mode fits.
func (b *borrower) fitting(mode int) int {
	classes := [][]int{{0}, {1}, {1, 2}, {1, 2, 2, 3, 3}}[mode]
	v, _ := b.some(classes...)
	return v
}

func (b *borrower) put(i api.Instr) { b.c.Ins = append(b.c.Ins, i) }

func (b *borrower) body() {
	for range 2 {
		for class := range 4 {
			v := api.Var{Class: class}
			if class > 0 {
				v.T = to("S")
			}
			b.c.Vars = append(b.c.Vars, v)
			d := len(b.c.Vars) - 1
			b.put([]api.Instr{{Op: api.Get, D: d}, {Op: api.New, D: d}, {Op: api.Null, D: d}, {Op: api.Null, D: d}}[class])
		}
	}
	first := len(b.c.Ins)
	for range 3 + b.r.IntN(14) {
		b.one()
	}
	last := len(b.c.Ins)
	for range b.r.IntN(3) {
		at := first + b.r.IntN(last-first)
		a, _ := b.some(0)
		if b.c.Ins[at].Op != api.New {
			b.c.Ins[at] = api.Instr{Op: api.Branch, A: a, To: first + b.r.IntN(last-first+1), Else: at + 1}
		}
	}
	b.put(api.Instr{Op: api.Ret, A: b.fitting(b.c.Ret.Class)})
}

// one: some instruction; what it gives away is made anew.
func (b *borrower) one() {
	class := 1 + b.r.IntN(3)
	d, _ := b.some(class)
	a := b.fitting(class)
	n, _ := b.some(0)
	own, _ := b.some(1)
	mut, _ := b.some(1, 2)
	again := func(v int) { b.put(api.Instr{Op: api.New, D: v}) }
	switch b.r.IntN(13) {
	case 0:
		b.put(api.Instr{Op: api.Get, D: n})
	case 1:
		b.put(api.Instr{Op: api.Put, A: n})
	case 2:
		b.put(api.Instr{Op: api.Load, D: n, A: b.fitting(3)})
	case 3:
		b.put(api.Instr{Op: api.Store, A: mut, B: n})
	case 4:
		b.put(api.Instr{Op: api.IsNull, D: n, A: b.fitting(3), Sign: "=="})
	case 5, 6:
		b.put(api.Instr{Op: api.Give, D: d, A: a})
		if class == 1 && a != d {
			again(a)
		}
	case 7, 8:
		a = b.fitting(2)
		if class == 3 {
			a = b.fitting(3)
		}
		b.put(api.Instr{Op: api.Take, D: d, A: a, F: 1 + b.r.IntN(2)})
	case 9:
		b.put(api.Instr{Op: api.Set, A: mut, B: own, F: 1 + b.r.IntN(2)})
		again(own)
	case 10:
		b.put(api.Instr{Op: api.Free, A: own})
		again(own)
	case 11, 12:
		b.call()
	}
}

func (b *borrower) call() {
	f := b.r.IntN(len(b.m.Funcs))
	c := b.m.Funcs[f]
	i := api.Instr{Op: api.Call, F: f}
	i.D = b.fitting(c.Ret.Class)
	if v, is := b.some(c.Ret.Class); is {
		i.D = v
	}
	gone := map[int]bool{}
	for _, p := range c.Vars[:c.Params] {
		a := b.fitting(p.Class)
		i.Args = append(i.Args, a)
		gone[a] = gone[a] || p.Class == 1
	}
	b.put(i)
	for v := range b.c.Vars {
		if gone[v] && v != i.D {
			b.put(api.Instr{Op: api.New, D: v})
		}
	}
}
