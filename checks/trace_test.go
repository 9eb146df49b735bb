package checks

import (
	"bytes"
	"fmt"
	"math"
	"strings"
	"testing"

	"usufruct/api"
	"usufruct/blrun"
	"usufruct/mcrun"
	"usufruct/show"
	"usufruct/trace"
	"usufruct/translate"
)

// verdictAgain: of the outcomes of both machines, each run anew with so much fuel.
func verdictAgain(a, b api.Module, in []byte, fails []bool, fuel int) trace.Verdict {
	for n := 0; ; n++ {
		first, second := mcrun.Run(a, in, fails, n), blrun.Run(b, in, fails, n)
		alike := first.Kind == 2 || first.Kind == second.Kind && first.Code == second.Code && bytes.Equal(first.Out, second.Out) && first.Steps == second.Steps
		if !alike {
			return trace.Verdict{At: n, First: first, Second: second}
		}
		if n >= fuel || first.Kind != 4 && second.Kind != 4 {
			return trace.Verdict{Same: true, At: -1, First: first, Second: second}
		}
	}
}

func TestP3001Steps(t *testing.T) {
	t.Parallel()
	w, _ := translate.Do("int main() { put(65); return 7; }")
	lines := func(fuel, most int) string {
		var got []string
		for a, b := range trace.Steps(w.Lower, w.Target, nil, nil, fuel) {
			if got = append(got, outcome(a)+" "+outcome(b)); len(got) == most {
				break
			}
		}
		return strings.Join(got, " | ")
	}
	all := []string{`4 0 "" 0 0 4 0 "" 0 0`, `4 0 "" 1 0 4 0 "" 1 0`, `4 0 "A" 2 0 4 0 "A" 2 0`, `4 0 "A" 3 0 4 0 "A" 3 0`, `1 7 "A" 4 0 1 7 "A" 4 0`}
	for fuel := range 9 {
		for most := 1; most < 8; most++ {
			is(t, fmt.Sprint("fuel ", fuel, " asked ", most), lines(fuel, most), strings.Join(all[:min(len(all), fuel+1, most)], " | "))
		}
	}
	is(t, "no fuel", lines(-1, 9)+lines(math.MinInt, 9), all[0]+all[0])
	is(t, "much fuel", lines(math.MaxInt, 9), strings.Join(all, " | "))
	short, _ := translate.Do("int main() { return 7; }")
	n := 0
	var last string
	for a, b := range trace.Steps(short.Lower, w.Target, nil, nil, 99) {
		n++
		last = outcome(a) + " " + outcome(b)
	}
	is(t, "one goes on longer", fmt.Sprint(n, " ", last), `5 1 7 "" 2 0 1 7 "A" 4 0`)
	for range trace.Steps(api.Module{}, w.Target, nil, nil, 9) {
		t.Error("a step of what is not right")
	}
	for range trace.Steps(w.Lower, everyOp(), nil, nil, 9) {
		t.Error("a step of what is not formed")
	}
}

func TestP3001Compare(t *testing.T) {
	t.Parallel()
	w, _ := translate.Do("int main() { put(65); return 7; }")
	o, _ := translate.Do("int main() { put(66); return 7; }")
	p, _ := translate.Do("int main() { put(65); return 8; }")
	show := func(v trace.Verdict) string {
		return fmt.Sprint(v.Same, v.At, " ", outcome(v.First), " ", outcome(v.Second))
	}
	compare := func(a, b api.Module, fuel int) string {
		v, f := trace.Compare(a, b, nil, nil, fuel)
		return fmt.Sprint(f, " ", show(v))
	}
	is(t, "the example", compare(w.Lower, w.Target, 99), `0 true -1 1 7 "A" 4 0 1 7 "A" 4 0`)
	is(t, "little fuel", compare(w.Lower, w.Target, 2), `0 true -1 4 0 "A" 2 0 4 0 "A" 2 0`)
	is(t, "no fuel", compare(w.Lower, w.Target, -5), `0 true -1 4 0 "" 0 0 4 0 "" 0 0`)
	is(t, "another byte", compare(w.Lower, o.Target, 99), `0 false 2 4 0 "A" 2 0 4 0 "B" 2 0`)
	is(t, "another byte, not met yet", compare(w.Lower, o.Target, 1), `0 true -1 4 0 "" 1 0 4 0 "" 1 0`)
	is(t, "another code", compare(w.Lower, p.Target, 99), `0 false 4 1 7 "A" 4 0 1 8 "A" 4 0`)
	_, f := trace.Compare(api.Module{}, everyOp(), nil, nil, 9)
	is(t, "the first one's fault ahead", f, api.NoMain)
	v, f := trace.Compare(w.Lower, everyOp(), nil, nil, 9)
	is(t, "the second one's fault", f, api.Mistyped)
	equal(t, "no verdict", v, trace.Verdict{})
	u, _ := translate.Do("int main() { put(65); put(1 / 0); return 7; }")
	x, _ := translate.Do("int main() { put(65); int a = 1; int b = 0; put(67); return 7; }")
	is(t, "undefined: the second may do anything then", compare(u.Lower, x.Target, 99), `0 true -1 2 0 "A" 5 0 1 7 "AC" 8 0`)
	is(t, "not alike ahead of what is undefined", compare(u.Lower, w.Target, 99), `0 false 4 4 0 "A" 4 0 1 7 "A" 4 0`)
	for seed := range uint64(150) {
		a, d := translate.Do(show1(seed))
		b, e := translate.Do(show1(seed + 1))
		if d != (api.Diag{}) || e != (api.Diag{}) {
			continue
		}
		in, fails := tries(seed)
		for _, x := range []api.Module{a.Target, b.Target} {
			v, f := trace.Compare(a.Lower, x, in, fails, 120)
			is(t, "fault", f, api.OK)
			equal(t, "Compare", v, verdictAgain(a.Lower, x, in, fails, 120))
		}
	}
}

// show1: the text of a program for a seed.
func show1(seed uint64) string { return show.Prog(sanely(seed)) }

func TestP3002Alike(t *testing.T) {
	t.Parallel()
	for _, c := range []struct {
		a, b api.Outcome
		want bool
	}{
		{api.Outcome{}, api.Outcome{}, true},
		{api.Outcome{Kind: 1, Code: 3, Out: []byte("a"), Steps: 5, Left: 7}, api.Outcome{Kind: 1, Code: 3, Out: []byte("a"), Steps: 5, Left: 9}, true},
		{api.Outcome{Kind: 1, Code: 3}, api.Outcome{Kind: 1, Code: 4}, false},
		{api.Outcome{Kind: 1, Out: []byte("a")}, api.Outcome{Kind: 1, Out: []byte("b")}, false},
		{api.Outcome{Kind: 1, Out: []byte("a")}, api.Outcome{Kind: 1}, false},
		{api.Outcome{Kind: 1, Out: []byte{}}, api.Outcome{Kind: 1}, true},
		{api.Outcome{Kind: 1, Steps: 3}, api.Outcome{Kind: 1, Steps: 4}, false},
		{api.Outcome{Kind: 1}, api.Outcome{Kind: 4}, false},
		{api.Outcome{Kind: 4}, api.Outcome{Kind: 3}, false},
		{api.Outcome{Kind: 4}, api.Outcome{Kind: 5}, false},
		{api.Outcome{Kind: 4}, api.Outcome{Kind: 2}, false},
		{api.Outcome{Kind: 2, Code: 1, Out: []byte("a"), Steps: 2}, api.Outcome{Kind: 5, Steps: 8}, true},
		{api.Outcome{Kind: 2}, api.Outcome{Kind: 3}, true},
		{api.Outcome{Kind: 2}, api.Outcome{}, true},
	} {
		is(t, fmt.Sprint("Alike ", c.a, c.b), trace.Alike(c.a, c.b), c.want)
	}
	for _, c := range []struct {
		a, b string
		want bool
	}{{"", "", true}, {"", "a", true}, {"a", "", false}, {"a", "ab", true}, {"ab", "ab", true}, {"abc", "ab", false}, {"b", "ab", false}} {
		is(t, fmt.Sprint("Prefix ", c.a, c.b), trace.Prefix([]byte(c.a), []byte(c.b)), c.want)
	}
	must(t, "Prefix of nil", trace.Prefix(nil, nil) && trace.Prefix(nil, []byte{1}) && !trace.Prefix([]byte{0}, nil))
}

func TestP3002Source(t *testing.T) {
	t.Parallel()
	for src, want := range wrongSources() {
		v, d := trace.Source(src, nil, nil, 9)
		is(t, src[:min(len(src), 200)], d, want)
		equal(t, "no verdict", v, trace.Verdict{})
	}
	for seed := range uint64(300) {
		src := show1(seed)
		in, fails := tries(seed)
		v, d := trace.Source(src, in, fails, 100)
		w, e := translate.Do(src)
		is(t, "diag", d, e)
		if e == (api.Diag{}) {
			equal(t, "Source", v, verdictAgain(w.Lower, w.Target, in, fails, 100))
		}
	}
}

func TestP3003Same(t *testing.T) {
	t.Parallel()
	// Also P1 and P3: whatever comes in, and fails, both do alike on the way, and at the end.
	found := map[int]int{}
	for seed := range uint64(3000) {
		in, fails := tries(seed)
		v, d := trace.Source(show1(seed), in, fails, 400)
		if d != (api.Diag{}) {
			continue
		}
		found[v.First.Kind]++
		if !v.Same {
			t.Fatal("not the same ", v, "\n", show1(seed))
		}
	}
	must(t, fmt.Sprint("all kinds ", found), found[1] > 100 && found[2] > 100 && found[4] > 100)
}
