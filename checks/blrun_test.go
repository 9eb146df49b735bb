package checks

import (
	"fmt"
	"math"
	"slices"
	"strings"
	"testing"

	"usufruct/api"
	"usufruct/bl"
	"usufruct/blread"
	"usufruct/blrun"
	"usufruct/mcrun"
	"usufruct/nll"
)

// Ways in which a run of the second language breaks off, by their kinds.
type blEnd int

// blRunner: runs a program of the second language, by functions that call one another.
type blRunner struct {
	m       api.Module
	cells   []map[int]int64
	kinds   []int
	dead    map[int64]bool
	in, out []byte
	fails   []bool
	made    int
	steps   int
	fuel    int
	depth   int
}

// blAgain: what a program does in at most fuel steps, and how many frames there are then, and how many cells were dropped.
func blAgain(m api.Module, in []byte, fails []bool, fuel int) (o api.Outcome, depth, dropped int) {
	r := &blRunner{m: m, dead: map[int64]bool{}, in: in, fails: fails, fuel: fuel}
	defer func() {
		if e, is := recover().(blEnd); is {
			o.Kind = int(e)
		}
		o.Out, o.Steps, o.Left = r.out, r.steps, len(r.cells)-len(r.dead)
		depth, dropped = r.depth, len(r.dead)
	}()
	for f, c := range m.Funcs {
		if c.Name == "main" {
			o.Code = r.call(f, nil)
		}
	}
	o.Kind = 1
	return o, 0, 0
}

func (r *blRunner) drop(p int64) {
	if p == 0 {
		return
	}
	if r.dead[p] {
		panic(blEnd(5))
	}
	r.dead[p] = true
	for k, f := range r.m.Structs[r.kinds[p-1]].Fields {
		if f.T.Ptr {
			r.drop(r.cells[p-1][k])
		}
	}
}

func (r *blRunner) at(p int64) map[int]int64 {
	if p == 0 {
		panic(blEnd(3))
	}
	if r.dead[p] {
		panic(blEnd(5))
	}
	return r.cells[p-1]
}

// blFrame: a function's variables that have values.
type blFrame struct {
	r *blRunner
	c api.Code
	v map[int]int64
}

func (f *blFrame) write(d int, n int64) {
	if old, is := f.v[d]; is && f.c.Vars[d].Class == 1 {
		f.r.drop(old)
	}
	f.v[d] = n
}

func (r *blRunner) call(fn int, args []int64) int64 {
	r.depth++
	f := &blFrame{r: r, c: r.m.Funcs[fn], v: map[int]int64{}}
	for k, a := range args {
		f.v[k] = a
	}
	for at := 0; ; at++ {
		if r.steps >= r.fuel {
			panic(blEnd(4))
		}
		r.steps++
		i := f.c.Ins[at]
		for v := range f.c.Vars {
			if _, has := f.v[v]; readsAgain(i, v) && !has {
				panic(blEnd(5))
			}
		}
		a, b := f.v[i.A], f.v[i.B]
		var args []int64
		for _, x := range i.Args {
			args = append(args, f.v[x])
		}
		for _, u := range usesAgain(f.c, i) {
			if u.Kind == 3 {
				delete(f.v, u.Var)
			}
		}
		switch i.Op {
		case api.Num:
			f.write(i.D, wrapAgain(i.N))
		case api.Null:
			f.write(i.D, 0)
		case api.Copy, api.Give:
			f.write(i.D, a)
		case api.Bin:
			if (i.Sign == "/" || i.Sign == "%") && b == 0 {
				panic(blEnd(3))
			}
			f.write(i.D, signAgain(i.Sign, a, b))
		case api.Get:
			n := int64(-1)
			if len(r.in) > 0 {
				n, r.in = int64(r.in[0]), r.in[1:]
			}
			f.write(i.D, n)
		case api.Put:
			r.out = append(r.out, byte(a))
		case api.Load:
			f.write(i.D, r.at(a)[i.F])
		case api.Store:
			r.at(a)[i.F] = b
		case api.Take:
			n := r.at(a)[i.F]
			if i.Mode[0] == 1 {
				r.at(a)[i.F] = 0
			}
			f.write(i.D, n)
		case api.Set:
			r.drop(r.at(a)[i.F])
			r.cells[a-1][i.F] = b
		case api.New:
			k := r.made
			r.made++
			if k < len(r.fails) && r.fails[k] {
				f.write(i.D, 0)
			} else {
				r.cells, r.kinds = append(r.cells, map[int]int64{}), append(r.kinds, i.F)
				f.write(i.D, int64(len(r.cells)))
			}
		case api.Free:
			r.drop(a)
		case api.IsNull:
			f.write(i.D, int64(btoi((a == 0) == (i.Sign == "=="))))
		case api.Call:
			f.write(i.D, r.call(i.F, args))
		case api.Jump:
			at = i.To - 1
		case api.Branch:
			at = i.Else - 1
			if a != 0 {
				at = i.To - 1
			}
		case api.Ret:
			for v, x := range f.c.Vars {
				if n, has := f.v[v]; has && x.Class == 1 {
					r.drop(n)
				}
			}
			r.depth--
			return a
		}
	}
}

// read: a program of the second language from its text.
func read(text string) api.Module {
	m, f := blread.Read(text)
	if f != api.OK {
		panic(fmt.Sprint("not read: ", f, "\n", text))
	}
	return m
}

const blHead = "struct S {\n  v int\n  n S\n  m S\n}\n"

// blMain: a main of these lines, of variables: x0 a number, x1 to x3 owned, x4 to change, x5 to look at.
func blMain(more string, lines ...string) api.Module {
	s := blHead + more + "fn main() -> int {\n  var int\n  var own S\n  var own S\n  var own S\n  var mut S\n  var share S\n"
	for k, l := range lines {
		s += fmt.Sprintf("  %d %s\n", k, l)
	}
	return read(s + "}\n")
}

func TestP2601Steps(t *testing.T) {
	t.Parallel()
	m := blMain("", "new x1 S", "free x1", "free x1", "num x0 7", "ret x0")
	is(t, "the example", outcome(blrun.Run(m, nil, nil, 99)), `5 0 "" 3 0`)
	x, f := blrun.New(m, nil, nil)
	is(t, "New", f, api.OK)
	var got []string
	got = append(got, fmt.Sprint(outcome(x.Outcome()), " ", x.Depth(), x.Dropped()))
	for x.Step() {
		got = append(got, fmt.Sprint(outcome(x.Outcome()), " ", x.Depth(), x.Dropped()))
	}
	is(t, "step by step", strings.Join(got, " | "), `4 0 "" 0 0 1 0 | 4 0 "" 1 1 1 0 | 4 0 "" 2 0 1 1 | 5 0 "" 3 0 1 1`)
	must(t, "no step behind the end", !x.Step())
	x, f = blrun.New(api.Module{}, nil, nil)
	is(t, "what is not formed", f, api.NoMain)
	must(t, "no machine", x == nil && !x.Step() && x.Depth() == 0 && x.Dropped() == 0)
	equal(t, "nil has no outcome", x.Outcome(), api.Outcome{})
	_, f = blrun.New(everyOp(), nil, nil)
	is(t, "what has no classes", f, api.Mistyped)
	equal(t, "Run of what is not formed", blrun.Run(everyOp(), nil, nil, 9), api.Outcome{})
	m = blMain("", "get x0", "put x0", "jump 0")
	for fuel, want := range map[int]string{math.MinInt: `4 0 "" 0 0`, -1: `4 0 "" 0 0`, 0: `4 0 "" 0 0`, 1: `4 0 "" 1 0`, 5: `4 0 "ab" 5 0`, 9: "4 0 \"ab\\xff\" 9 0"} {
		is(t, fmt.Sprint("fuel ", fuel), outcome(blrun.Run(m, []byte("ab"), nil, fuel)), want)
	}
	x, _ = blrun.New(m, []byte("a"), nil)
	x.Step()
	x.Step()
	x.Outcome().Out[0] = 'x'
	is(t, "what was handed out is new", string(x.Outcome().Out), "a")
}

func TestP2601Ops(t *testing.T) {
	t.Parallel()
	const f = "fn f(own S, share S) -> own S {\n  var int\n  0 put x2\n  1 ret own x0\n}\nfn g(own S, share S) -> share S from 1 {\n  0 ret share x1\n}\nfn h(own S, own S) -> int {\n  var int\n  0 num x2 65\n  1 put x2\n  2 ret x2\n}\n"
	for _, c := range []struct {
		what  string
		lines []string
		want  string
	}{
		{"no value", []string{"put x0", "ret x0"}, `5 0 "" 1 0`},
		{"no value of a pointer", []string{"isnull x0 == x1", "ret x0"}, `5 0 "" 1 0`},
		{"no value to give", []string{"give x1 own x2", "ret x0"}, `5 0 "" 1 0`},
		{"no value to answer", []string{"ret x0"}, `5 0 "" 1 0`},
		{"no value, nor a cell", []string{"null x5", "bin x0 x0 / x0", "ret x0"}, `5 0 "" 2 0`},
		{"by 0", []string{"num x0 0", "bin x0 x0 / x0", "ret x0"}, `3 0 "" 2 0`},
		{"rest by 0", []string{"num x0 0", "bin x0 x0 % x0", "ret x0"}, `3 0 "" 2 0`},
		{"wrapped", []string{"num x0 4294967301", "ret x0"}, `1 5 "" 2 0`},
		{"null", []string{"null x5", "load x0 x5 v", "ret x0"}, `3 0 "" 2 0`},
		{"null, stored", []string{"num x0 1", "null x4", "store x4 v x0", "ret x0"}, `3 0 "" 3 0`},
		{"null, taken of", []string{"null x4", "take x1 own x4 n", "ret x0"}, `3 0 "" 2 0`},
		{"null, set", []string{"null x4", "new x1 S", "set x4 n x1", "ret x0"}, `3 0 "" 3 1`},
		{"null is freed", []string{"null x1", "free x1", "num x0 3", "ret x0"}, `1 3 "" 4 0`},
		{"null, freed twice", []string{"null x1", "free x1", "free x1", "ret x0"}, `5 0 "" 3 0`},
		{"dropped at the end", []string{"new x1 S", "num x0 3", "ret x0"}, `1 3 "" 3 0`},
		{"dropped by what is written", []string{"new x1 S", "new x1 S", "null x1", "num x0 3", "ret x0"}, `1 3 "" 5 0`},
		{"given to what has a value", []string{"new x1 S", "new x2 S", "give x1 own x2", "num x0 3", "ret x0"}, `1 3 "" 5 0`},
		{"given away", []string{"new x1 S", "give x2 own x1", "free x1", "ret x0"}, `5 0 "" 3 1`},
		{"given to itself", []string{"new x1 S", "give x1 own x1", "load x0 x1 v", "ret x0"}, `1 0 "" 4 0`},
		{"lent, and dropped", []string{"new x1 S", "give x5 share x1", "free x1", "load x0 x5 v", "ret x0"}, `5 0 "" 4 0`},
		{"lent, and dropped, stored", []string{"num x0 1", "new x1 S", "give x4 mut x1", "free x1", "store x4 v x0", "ret x0"}, `5 0 "" 5 0`},
		{"lent, and dropped, held against null", []string{"new x1 S", "give x5 share x1", "free x1", "isnull x0 == x5", "ret x0"}, `1 0 "" 5 0`},
		{"lent, and dropped, dropped again", []string{"new x1 S", "give x4 mut x1", "give x2 own x4", "num x0 1", "ret x0"}, `5 0 "" 5 0`},
		{"set drops what was there", []string{"new x1 S", "new x2 S", "set x1 n x2", "new x2 S", "set x1 n x2", "num x0 1", "put x0", "jump 6"}, "4 0 \"\\x01\" 8 2"},
		{"set gives away", []string{"new x1 S", "new x2 S", "set x1 n x2", "isnull x0 == x2", "ret x0"}, `5 0 "" 4 2`},
		{"dropped with all in it", []string{"new x1 S", "new x2 S", "new x3 S", "set x2 m x3", "set x1 n x2", "free x1", "num x0 9", "jump 7"}, `4 0 "" 8 0`},
		{"taken out", []string{"new x1 S", "new x2 S", "set x1 n x2", "take x2 own x1 n", "take x3 own x1 n", "isnull x0 == x3", "free x1", "put x0", "jump 8"}, "4 0 \"\\x01\" 9 1"},
		{"taken to look at", []string{"new x1 S", "new x2 S", "set x1 n x2", "take x5 share x1 n", "take x5 share x1 n", "isnull x0 == x5", "ret x0"}, `1 0 "" 7 0`},
		{"taken into what it is of", []string{"new x1 S", "new x2 S", "set x1 n x2", "take x1 own x1 n", "isnull x0 == x1", "put x0", "jump 6"}, "4 0 \"\\x00\" 7 1"},
		{"a call", []string{"new x1 S", "null x5", "call x2 f own x1 share x5", "ret x0"}, `5 0 "" 4 1`},
		{"a call that owns", []string{"new x1 S", "null x5", "call x5 g own x1 share x5", "num x0 7", "ret x0"}, `1 7 "" 6 0`},
		{"a call that owns two", []string{"new x1 S", "new x2 S", "call x0 h own x1 own x2", "ret x0"}, `1 65 "A" 7 0`},
		{"a call that owns one twice", []string{"new x1 S", "call x0 h own x1 own x1", "ret x0"}, `5 0 "A" 5 0`},
		{"a ring", []string{"new x1 S", "give x4 mut x1", "new x2 S", "give x5 share x2", "set x4 n x2", "num x0 5", "ret x0"}, `1 5 "" 7 0`},
	} {
		m := blMain(f, c.lines...)
		o, _, _ := blAgain(m, nil, nil, len(c.lines)+20)
		fuel := 99
		if strings.HasPrefix(c.want, "4") {
			fuel = len(c.lines)
			o, _, _ = blAgain(m, nil, nil, fuel)
		}
		is(t, c.what+" (the same again)", outcome(o), c.want)
		is(t, c.what, outcome(blrun.Run(m, nil, nil, fuel)), c.want)
	}
}

func TestP2601Fails(t *testing.T) {
	t.Parallel()
	m := blMain("", "new x1 S", "new x2 S", "isnull x0 == x1", "put x0", "isnull x0 == x2", "put x0", "ret x0")
	is(t, "the first one fails", outcome(blrun.Run(m, nil, []bool{true}, 99)), `1 0 "\x01\x00" 7 0`)
	is(t, "the second one fails", outcome(blrun.Run(m, nil, []bool{false, true}, 99)), `1 1 "\x00\x01" 7 0`)
}

func TestP2601Chance(t *testing.T) {
	t.Parallel()
	found := map[int]int{}
	deep, drops := 0, 0
	for seed, m := range lentModules(1500) {
		in, fails := tries(uint64(seed))
		for _, fuel := range []int{7, 60, 1000} {
			o, depth, dropped := blAgain(m, in, fails, fuel)
			x, f := blrun.New(m, in, fails)
			is(t, "fault", f, api.OK)
			for range fuel {
				x.Step()
			}
			equal(t, bl.Text(m), x.Outcome(), o)
			equal(t, "Run", blrun.Run(m, in, fails, fuel), o)
			if o.Kind != 1 {
				is(t, "Depth", x.Depth(), depth)
			} else {
				is(t, "Depth at the end", x.Depth(), 0)
			}
			is(t, "Dropped", x.Dropped(), dropped)
			found[o.Kind]++
			deep = max(deep, depth)
			drops = max(drops, dropped)
		}
	}
	must(t, fmt.Sprint("all kinds ", found, deep, drops), found[1] > 100 && found[3] > 100 && found[4] > 100 && found[5] > 100 && found[2] == 0 && deep > 5 && drops > 10)
}

func TestP2602Accepted(t *testing.T) {
	t.Parallel()
	found := map[int]int{}
	for seed, m := range lentModules(6000) {
		if !nll.Accept(m) {
			continue
		}
		for k := range uint64(4) {
			in, fails := tries(uint64(seed)*5 + k)
			x, _ := blrun.New(m, in, fails)
			for range 2000 {
				x.Step()
			}
			o := x.Outcome()
			found[o.Kind]++
			if o.Kind == 5 {
				t.Fatal("what is accepted is stuck\n", bl.Text(m), in, fails, outcome(o))
			}
			if o.Kind == 1 {
				is(t, "no cell is alive at the end", o.Left, 0)
			}
		}
	}
	must(t, fmt.Sprint("all kinds but stuck ", found), found[1] > 100 && found[3] > 100 && found[4] > 20)
}

func TestP2602Same(t *testing.T) {
	t.Parallel()
	// What owns nothing does the same in both languages.
	same := 0
	for seed, m := range someModules(400) {
		pointers := slices.ContainsFunc(m.Funcs, func(c api.Code) bool {
			return slices.ContainsFunc(c.Vars, func(v api.Var) bool { return v.T.Ptr })
		})
		if pointers || bl.Formed(m) != api.OK {
			continue
		}
		in, fails := tries(uint64(seed))
		a, b := mcrun.Run(m, in, fails, 500), blrun.Run(m, in, fails, 500)
		if a.Kind != 2 && b.Kind != 5 {
			same++
			equal(t, "numbers alone", a, b)
		}
	}
	must(t, fmt.Sprint("some have numbers alone ", same), same > 0)
}
