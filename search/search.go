// Package search looks for models of clauses, one behind the other, and keeps of what it learns on the way from which clauses it comes.
package search

import "slices"

// How a variable was set.
const (
	open    = iota // it was not
	chosen         // by choice
	forced         // as the last literal of a clause
	flipped        // by choice, after all models of the other choice were told
)

// none is in the place of a clause.
const none = -1

// Link is one resolution: with a clause, in which that literal is, on its variable.
type Link struct{ Clause, Lit int }

// Origin tells from what a clause comes: from a clause, by resolutions in order.
type Origin struct {
	First int
	Links []Link
}

// Search is over clauses with numbers: the given ones from 0 on, then those that were learned. Variables are gone through in their order, first as false: so the first model is found first.
type Search struct {
	n       int
	given   int
	logged  bool    // whether origins are kept
	clauses [][]int // the first two literals of each are watched
	origins []Origin
	end     Origin  // of the clause without literals
	watch   [][]int // of each literal's index the clauses that watch it
	units   []int   // clauses of one literal that is not set for ever
	value   []int   // of each variable: 1 true, -1 false, 0 open
	how     []int
	level   []int
	why     []int // the clause that forced it
	marks   []bool
	trail   []int // the literals that are true, in the order in which they were set
	looked  int   // how many of them were looked at
	begins  []int // of each level but 0 where it begins in the trail
	lows    []int // of each such level the lowest variable that may be open ahead of it
	low     int
	floor   int // the level below which nobody jumps: what is left of its choices was told
	assumed []int
	begun   bool
	dead    bool // there is no model, whatever is assumed
	steps   int
}

// New tells a search over clauses of n variables, all literals of which are some.
func New(n int, l [][]int, logged bool) *Search {
	s := &Search{n: n, logged: logged, low: 1, watch: make([][]int, 2*n+2), value: make([]int, n+1), how: make([]int, n+1),
		level: make([]int, n+1), why: make([]int, n+1), marks: make([]bool, n+1)}
	seen := make([]int, n+1)
	for _, c := range l {
		s.give(c, seen)
	}
	s.given = len(l)
	return s
}

// once tells a clause's literals, each once, and whether one is there with its negation; seen is all 0, before and behind.
func once(c []int, seen []int) ([]int, bool) {
	var lits []int
	always := false
	for _, l := range c {
		v := variable(l)
		if seen[v] == 0 {
			seen[v] = l
			lits = append(lits, l)
		}
		always = always || seen[v] != l
	}
	for _, l := range lits {
		seen[variable(l)] = 0
	}
	return lits, always
}

// give puts a clause among those that are given; one that is always true is kept as a number alone.
func (s *Search) give(c []int, seen []int) {
	k := len(s.clauses)
	lits, always := once(c, seen)
	if always {
		lits = nil
	}
	s.clauses = append(s.clauses, lits)
	switch {
	case always || s.dead:
	case len(lits) == 0 || len(lits) == 1 && s.truth(lits[0]) < 0:
		s.conclude(k)
	case len(lits) == 1 && s.truth(lits[0]) == 0:
		s.set(lits[0], forced, k)
	case len(lits) > 1:
		s.attach(k)
	}
}

// Next looks for the first model, or the one behind that which was found last.
func (s *Search) Next() bool {
	if s.dead || s.begun && !s.flip() {
		return false
	}
	s.begun = true
	return s.run()
}

// Find looks for the first model in which these literals are true, and leaves it.
func (s *Search) Find(lits []int) ([]bool, bool) {
	s.assumed = lits
	var model []bool
	is := !s.dead && s.run()
	if is {
		model = s.Model()
	}
	s.assumed = nil
	s.cancel(0)
	return model, is
}

// Keep makes literals true for ever; there is a model in which they are.
func (s *Search) Keep(lits []int) {
	for _, l := range lits {
		if s.truth(l) == 0 {
			s.set(l, chosen, none)
		}
	}
}

// Model tells the model that was found.
func (s *Search) Model() []bool {
	model := make([]bool, s.n)
	for k := range model {
		model[k] = s.value[k+1] > 0
	}
	return model
}

// Steps tells how many literals were set.
func (s *Search) Steps() int { return s.steps }

// End tells from what the clause without literals comes, once it was found that there is no model.
func (s *Search) End() Origin { return s.end }

// Learned tells from what a clause comes; false: it was given.
func (s *Search) Learned(k int) (Origin, bool) {
	if k < s.given {
		return Origin{}, false
	}
	return s.origins[k-s.given], true
}

func variable(l int) int { return max(l, -l) }

// index is a literal's place among all.
func index(l int) int {
	if l < 0 {
		return 1 - 2*l
	}
	return 2 * l
}

// truth of a literal: 1 it is true, -1 false, 0 open.
func (s *Search) truth(l int) int {
	if l < 0 {
		return -s.value[-l]
	}
	return s.value[l]
}

func (s *Search) depth() int { return len(s.begins) }

func (s *Search) set(l, how, why int) {
	v := variable(l)
	s.value[v] = 1
	if l < 0 {
		s.value[v] = -1
	}
	s.how[v], s.level[v], s.why[v] = how, s.depth(), why
	s.trail = append(s.trail, l)
	s.steps++
}

// deepen begins a level.
func (s *Search) deepen() {
	s.begins = append(s.begins, len(s.trail))
	s.lows = append(s.lows, s.low)
}

// cancel takes back what was set above a level.
func (s *Search) cancel(depth int) {
	if depth >= s.depth() {
		return
	}
	from := s.begins[depth]
	for _, l := range s.trail[from:] {
		s.value[variable(l)] = 0
		s.how[variable(l)] = open
	}
	s.low = s.lows[depth]
	s.trail, s.begins, s.lows = s.trail[:from], s.begins[:depth], s.lows[:depth]
	s.looked = min(s.looked, from)
}

// attach has the first two literals of a clause watched.
func (s *Search) attach(k int) {
	for _, l := range s.clauses[k][:2] {
		s.watch[index(l)] = append(s.watch[index(l)], k)
	}
}

// run goes on till all variables are set (true), or there is no model that is still to be told.
func (s *Search) run() bool {
running:
	for {
		if k := s.force(); k != none {
			if !s.repair(k) {
				return false
			}
			continue running
		}
		for s.depth() < len(s.assumed) {
			l := s.assumed[s.depth()]
			if s.truth(l) < 0 {
				return false
			}
			s.deepen()
			if s.truth(l) == 0 {
				s.set(l, chosen, none)
				continue running
			}
		}
		for s.low <= s.n && s.how[s.low] != open {
			s.low++
		}
		if s.low > s.n {
			return true
		}
		s.deepen()
		s.set(-s.low, chosen, none)
	}
}

// force sets what clauses force, and tells one that is false then.
func (s *Search) force() int {
	for _, k := range s.units {
		l := s.clauses[k][0]
		switch s.truth(l) {
		case -1:
			return k
		case 0:
			s.set(l, forced, k)
		}
	}
	found := none
	look := s.lost
forcing:
	for s.looked < len(s.trail) {
		l := -s.trail[s.looked]
		s.looked++
		if found = look(l); found != none {
			break forcing
		}
	}
	return found
}

// lost looks at the clauses that watch a literal which is false now.
func (s *Search) lost(l int) int {
	watchers := s.watch[index(l)]
	kept := watchers[:0]
	for n, k := range watchers {
		c := s.clauses[k]
		if c[0] == l {
			c[0], c[1] = c[1], c[0]
		}
		if s.truth(c[0]) <= 0 && s.watchOther(k) {
			continue
		}
		kept = append(kept, k)
		switch s.truth(c[0]) {
		case -1:
			s.watch[index(l)] = append(kept, watchers[n+1:]...)
			return k
		case 0:
			s.set(c[0], forced, k)
		}
	}
	s.watch[index(l)] = kept
	return none
}

// watchOther finds a literal, in the place of the second one, that is not false.
func (s *Search) watchOther(k int) bool {
	c := s.clauses[k]
	for n := 2; n < len(c); n++ {
		if s.truth(c[n]) >= 0 {
			c[1], c[n] = c[n], c[1]
			s.watch[index(c[1])] = append(s.watch[index(c[1])], k)
			return true
		}
	}
	return false
}

// repair goes back from where a clause is false; false: nothing is left.
func (s *Search) repair(k int) bool {
	top := 0
	for _, l := range s.clauses[k] {
		top = max(top, s.level[variable(l)])
	}
	s.cancel(max(top, s.floor))
	switch s.depth() {
	case 0:
		s.conclude(k)
		return false
	case s.floor:
		return s.flip()
	}
	s.learn(k)
	return true
}

// flip takes the last choice back, and makes the other one; false: there was none.
func (s *Search) flip() bool {
	if s.depth() == 0 {
		return false
	}
	l := s.trail[s.begins[s.depth()-1]]
	s.cancel(s.depth() - 1)
	s.floor = s.depth()
	s.set(-l, flipped, none)
	return true
}

// learn makes a clause of that which is false, and goes back as far as it forces something.
func (s *Search) learn(k int) {
	lits, origin := s.reason(k)
	back := 0
	for n := 1; n < len(lits); n++ {
		if at := s.level[variable(lits[n])]; at > back {
			back = at
			lits[1], lits[n] = lits[n], lits[1]
		}
	}
	s.cancel(max(back, s.floor))
	n := len(s.clauses)
	s.clauses = append(s.clauses, lits)
	s.origins = append(s.origins, origin)
	switch {
	case len(lits) > 1:
		s.attach(n)
	case s.depth() > 0:
		s.units = append(s.units, n)
	}
	s.set(lits[0], forced, n)
}

// reason resolves a clause that is false with those that forced its literals, till just one of the last level is left, which comes first.
func (s *Search) reason(k int) ([]int, Origin) {
	origin := Origin{First: k}
	lits := []int{0}
	var marked []int
	left := 0 // how many of the last level are in it
	put := func(k int) {
		for _, l := range s.clauses[k] {
			v := variable(l)
			if s.marks[v] || s.level[v] == 0 && !s.logged {
				continue
			}
			s.marks[v] = true
			marked = append(marked, v)
			if s.level[v] == s.depth() {
				left++
			} else {
				lits = append(lits, l)
			}
		}
	}
	put(k)
	for _, l := range slices.Backward(s.trail) {
		if !s.marks[variable(l)] {
			continue
		}
		if left == 1 {
			lits[0] = -l
			break
		}
		left--
		k := s.why[variable(l)]
		if s.logged {
			origin.Links = append(origin.Links, Link{Clause: k, Lit: l})
		}
		put(k)
	}
	for _, v := range marked {
		s.marks[v] = false
	}
	return lits, origin
}

// conclude finds that there is no model: a clause is false by what is set for ever.
func (s *Search) conclude(k int) {
	s.dead = true
	s.end = Origin{First: k}
	if !s.logged {
		return
	}
	in := make([]bool, s.n+1)
	for _, l := range s.clauses[k] {
		in[variable(l)] = true
	}
	for _, l := range slices.Backward(s.trail) {
		if in[variable(l)] {
			why := s.why[variable(l)]
			s.end.Links = append(s.end.Links, Link{Clause: why, Lit: l})
			for _, r := range s.clauses[why] {
				in[variable(r)] = true
			}
		}
	}
}
