package checks

import (
	"fmt"
	"math"
	"math/rand/v2"
	"testing"

	"usufruct/api"
	"usufruct/bl"
	"usufruct/bltype"
)

// byClasses: a formed program whose modes are as its classes ask.
func byClasses(m api.Module) api.Module {
	m = cloned(m)
	for f := range m.Funcs {
		c := &m.Funcs[f]
		for at := range c.Ins {
			i := &c.Ins[at]
			i.Mode = nil
			switch {
			case i.Op == api.Give || i.Op == api.Take:
				i.Mode = []int{c.Vars[i.D].Class}
			case i.Op == api.Ret && c.Ret.T.Ptr:
				i.Mode = []int{c.Ret.Class}
			case i.Op == api.Call:
				for k := range i.Args {
					i.Mode = append(i.Mode, m.Funcs[i.F].Vars[k].Class)
				}
			}
		}
		c.From = nil
	}
	sets, _ := originsAgain(m)
	for f := range m.Funcs {
		if lentAgain(m.Funcs[f].Ret) {
			m.Funcs[f].From = sets[ofResult(f)]
		}
	}
	return m
}

// fitsAgain: which class a mode fits, by words.
func fitsAgain(mode, class int) bool {
	return map[[2]int]bool{{1, 1}: true, {2, 1}: true, {2, 2}: true, {3, 1}: true, {3, 2}: true, {3, 3}: true}[[2]int{mode, class}]
}

// typedAgain: whether each use of an instruction may be as it is.
func typedAgain(m api.Module, c api.Code, i api.Instr) bool {
	class := func(v int) int { return c.Vars[v].Class }
	change := func(v int) bool { return class(v) == 1 || class(v) == 2 }
	switch i.Op {
	case api.Give:
		return i.Mode[0] == class(i.D) && fitsAgain(i.Mode[0], class(i.A))
	case api.Take:
		return i.Mode[0] == class(i.D) && (i.Mode[0] == 3 || change(i.A))
	case api.Store:
		return change(i.A)
	case api.Set:
		return change(i.A) && class(i.B) == 1
	case api.New:
		return class(i.D) == 1
	case api.Free:
		return class(i.A) == 1
	case api.Call:
		for k, a := range i.Args {
			if i.Mode[k] != m.Funcs[i.F].Vars[k].Class || c.Vars[a].T.Ptr && !fitsAgain(i.Mode[k], class(a)) {
				return false
			}
		}
		return class(i.D) == m.Funcs[i.F].Ret.Class
	case api.Ret:
		return !c.Ret.T.Ptr || i.Mode[0] == c.Ret.Class && fitsAgain(i.Mode[0], class(i.A)) && !(i.Mode[0] == 2 && class(i.A) == 1)
	}
	return true
}

// typesAgain: the diag of the first instruction whose uses may not be so.
func typesAgain(m api.Module) api.Diag {
	if f := bl.Formed(m); f != api.OK {
		return diag(22, f, 0, 0)
	}
	for f, c := range m.Funcs {
		for at, i := range c.Ins {
			if !typedAgain(m, c, i) {
				return diag(22, api.Mistyped, f+1, at+1)
			}
		}
	}
	return api.Diag{}
}

// usesAgain: by the table of the chapter.
func usesAgain(c api.Code, i api.Instr) []bltype.Use {
	l := []bltype.Use{}
	put := func(v, kind int) { l = append(l, bltype.Use{Var: v, Kind: kind}) }
	kind := map[int]int{1: 3, 2: 2, 3: 1}
	switch i.Op {
	case api.Load, api.IsNull:
		put(i.A, 1)
	case api.Store:
		put(i.A, 2)
	case api.Set:
		put(i.A, 2)
		put(i.B, 3)
	case api.Free:
		put(i.A, 3)
	case api.Give:
		put(i.A, kind[i.Mode[0]])
	case api.Take:
		put(i.A, map[int]int{1: 2, 2: 2, 3: 1}[i.Mode[0]])
	case api.Call:
		for k, a := range i.Args {
			if c.Vars[a].T.Ptr {
				put(a, kind[i.Mode[k]])
			}
		}
	case api.Ret:
		if c.Ret.T.Ptr {
			put(i.A, kind[i.Mode[0]])
		}
	}
	return l
}

func TestP2201Check(t *testing.T) {
	t.Parallel()
	is(t, "what is not formed", bltype.Check(api.Module{}), diag(22, api.NoMain, 0, 0))
	plain := everyOp()
	is(t, "a pointer without a class", bltype.Check(plain), diag(22, api.Mistyped, 0, 0))
	base := func() api.Module {
		m := lowered("struct S { int v; S * n; }; S * f(S * a, S * b, int i) { return a; } int main() { S * x = new S; S * y = x; S * z = x->n; x->v = 1; x->n = y; S * w = f(x, y, 1); free(x); return x == null; }")
		for f := range m.Funcs {
			for v := range m.Funcs[f].Vars {
				m.Funcs[f].Vars[v].Class = api.Own * btoi(m.Funcs[f].Vars[v].T.Ptr)
			}
		}
		m.Funcs[0].Ret.Class = api.Own
		return m
	}
	is(t, "all owned", bltype.Check(byClasses(base())), api.Diag{})
	// Variables of main: 0 x, 1 y, 2 z, 5 w; instructions: 0 new, 1 give, 2 take, 4 store, 5 set, 7 call, 8 free.
	for _, c := range []struct {
		what string
		want api.Diag
		by   func(f, main *api.Code)
	}{
		{"new into what is lent", diag(22, api.Mistyped, 2, 1), func(f, main *api.Code) { main.Vars[0].Class = 2 }},
		{"give of what is lent to what is owned", diag(22, api.Mistyped, 2, 1), func(f, main *api.Code) { main.Vars[0].Class = 3 }},
		{"give own to mut", api.Diag{}, func(f, main *api.Code) { main.Vars[2].Class = 2 }},
		{"take share of own", api.Diag{}, func(f, main *api.Code) { main.Vars[2].Class = 3 }},
		{"set of what is lent", diag(22, api.Mistyped, 2, 6), func(f, main *api.Code) { main.Vars[1].Class = 2 }},
		{"a result that is lent", diag(22, api.Mistyped, 2, 8), func(f, main *api.Code) { f.Ret.Class = 3 }},
		{"mut of own", diag(22, api.Mistyped, 1, 1), func(f, main *api.Code) { f.Ret.Class = 2 }},
		{"mut of mut, and own", diag(22, api.Mistyped, 2, 8), func(f, main *api.Code) { f.Ret.Class = 2; f.Vars[0].Class = 2 }},
		{"share of own", api.Diag{}, func(f, main *api.Code) { f.Ret.Class = 3; main.Vars[4].Class = 3 }},
		{"a parameter that is lent", api.Diag{}, func(f, main *api.Code) { f.Vars[1].Class = 3 }},
		{"a result of what is lent", diag(22, api.Mistyped, 1, 1), func(f, main *api.Code) { f.Vars[0].Class = 2 }},
		{"mut of share", diag(22, api.Mistyped, 1, 1), func(f, main *api.Code) { f.Ret.Class = 2; f.Vars[0].Class = 3 }},
	} {
		m := base()
		c.by(&m.Funcs[0], &m.Funcs[1])
		n := byClasses(m)
		is(t, c.what+" (the same again)", typesAgain(n), c.want)
		is(t, c.what, bltype.Check(n), c.want)
	}
}

func TestP2201Chance(t *testing.T) {
	t.Parallel()
	found := map[string]int{}
	for seed, m := range someModules(1500) {
		r := dice(uint64(seed))
		n := byClasses(mostlyOwned(r, m))
		if r.IntN(3) == 0 {
			nudgeBl(r, &n)
		}
		want := typesAgain(n)
		is(t, "Check", bltype.Check(n), want)
		if want.At.Line > 0 {
			found[fmt.Sprint(n.Funcs[want.At.Line-1].Ins[want.At.Col-1].Op)]++
		} else {
			found[fmt.Sprint("fault ", want.What)]++
		}
	}
	for _, op := range []int{api.Give, api.Take, api.Store, api.Set, api.New, api.Free, api.Call, api.Ret} {
		must(t, fmt.Sprint("some of op ", op, found), found[fmt.Sprint(op)] > 3)
	}
	must(t, fmt.Sprint("some are right ", found), found["fault 0"] > 100)
}

// mostlyOwned: a module most of whose pointers are owned.
func mostlyOwned(r *rand.Rand, m api.Module) api.Module {
	m = cloned(m)
	often := 2 + r.IntN(60)
	class := func(v *api.Var) {
		if v.T.Ptr {
			v.Class = api.Own
			if r.IntN(often) == 0 {
				v.Class = 2 + r.IntN(2)
			}
		}
	}
	for f := range m.Funcs {
		for v := range m.Funcs[f].Vars {
			class(&m.Funcs[f].Vars[v])
		}
		class(&m.Funcs[f].Ret)
	}
	return m
}

func TestP2202Fits(t *testing.T) {
	t.Parallel()
	for _, mode := range []int{-1, 0, 1, 2, 3, 4, math.MinInt, math.MaxInt} {
		for _, class := range []int{-1, 0, 1, 2, 3, 4, math.MinInt, math.MaxInt} {
			is(t, fmt.Sprint("Fits ", mode, class), bltype.Fits(mode, class), fitsAgain(mode, class))
		}
		is(t, fmt.Sprint("Change ", mode), bltype.Change(mode), mode == 1 || mode == 2)
	}
}

func TestP2202Uses(t *testing.T) {
	t.Parallel()
	m := everyBl()
	want := map[int]string{7: "[{1 1}]", 8: "[{1 2}]", 9: "[{1 2}]", 10: "[{1 2}]", 11: "[{1 2} {2 3}]", 12: "[{2 1}]", 13: "[{1 1}]", 16: "[{1 3}]"}
	for at, i := range m.Funcs[1].Ins {
		w, is1 := want[at]
		if !is1 {
			w = "[]"
		}
		is(t, fmt.Sprint("Uses ", at), bltype.Uses(m, 1, at), w)
		is(t, fmt.Sprint("Instr ", at), bltype.Instr(m.Funcs[1], i), w)
	}
	is(t, "Uses of g", fmt.Sprint(bltype.Uses(m, 0, 0), bltype.Uses(m, 0, 1)), "[{0 1}] [{2 1}]")
	for _, n := range []int{-1, 2, 18, math.MinInt, math.MaxInt} {
		is(t, "what is not there", fmt.Sprint(bltype.Uses(m, n, 0), bltype.Uses(m, 0, n)), "[] []")
	}
	is(t, "what is not formed", fmt.Sprint(bltype.Uses(everyOp(), 1, 7), bltype.Uses(api.Module{}, 0, 0)), "[] []")
	for seed, m := range someModules(300) {
		m = formedChance(dice(uint64(seed)), m)
		for f, c := range m.Funcs {
			for at, i := range c.Ins {
				equal(t, "Instr", bltype.Instr(c, i), usesAgain(c, i))
				if at%16 == 0 {
					equal(t, "Uses", bltype.Uses(m, f, at), usesAgain(c, i))
				}
			}
		}
	}
	for op := -1; op < 20; op++ {
		bltype.Instr(api.Code{}, api.Instr{Op: op, Args: []int{3, -1}, Mode: []int{9}})
		bltype.Instr(api.Code{}, api.Instr{Op: op, A: -5, Args: []int{math.MaxInt}})
	}
}

func TestP2203Laws(t *testing.T) {
	t.Parallel()
	checked := 0
	for seed, m := range someModules(800) {
		m = byClasses(mostlyOwned(dice(uint64(seed)), m))
		if bltype.Check(m) != (api.Diag{}) {
			continue
		}
		checked++
		for _, c := range m.Funcs {
			for _, i := range c.Ins {
				for _, u := range bltype.Instr(c, i) {
					class := c.Vars[u.Var].Class
					must(t, "only what is owned is given away", u.Kind != 3 || class == api.Own)
					must(t, "only what may be changed is changed", u.Kind != 2 || class == api.Own || class == api.Mut)
				}
			}
		}
	}
	must(t, fmt.Sprint("some are checked ", checked), checked > 100)
}
