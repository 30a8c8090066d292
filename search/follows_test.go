package search_test

import (
	"math/rand/v2"
	"slices"
	"strings"
	"testing"

	"dictum/api"
	"dictum/deriv"
	"dictum/formula"
	"dictum/search"
)

// holdOne is P11.3's beginning, and P10.7's: each sequent has one step, there are Visits steps, the last one is of the sequent that is asked for, and they are right.
func holdOne(t *testing.T, x *formula.Table, s api.Seq, f api.Found) {
	t.Helper()
	last := len(f.Steps) - 1
	if last < 0 || len(f.Steps) != f.Visits || f.Steps[last].Seq != s || f.Steps[last].Proved != f.Proved {
		t.Fatalf("%v |- %d: %s", leftOf(s), s.Goal, show(f))
	}
	seen := map[api.Seq]int{}
	for i, step := range f.Steps {
		if j, twice := seen[step.Seq]; twice {
			t.Fatalf("%v |- %d: steps %d and %d of %s", leftOf(s), s.Goal, j, i, show(f))
		}
		seen[step.Seq] = i
		if slices.ContainsFunc(step.Kids, func(kid int) bool { return kid < 0 || kid >= i }) {
			t.Fatalf("%v |- %d: step %d of %s", leftOf(s), s.Goal, i, show(f))
		}
	}
	if e := deriv.Check(x, f.Steps); e != api.OK {
		t.Fatalf("%v |- %d: error %d of the steps %s", leftOf(s), s.Goal, e, show(f))
	}
}

// TestFollowsOne: P11.3, of sequents by chance.
func TestFollowsOne(t *testing.T) {
	chance := newChance(7)
	for range 2000 {
		x := made(t, someRows(chance, 3+chance.IntN(16), 1+chance.IntN(20), 3)...)
		s := someSeq(chance, x.Len(), 5)
		if f, e := search.Run(x, s, 200); e == api.OK {
			holdOne(t, x, s, f)
		}
	}
}

// truth tells which formulas are true where the atoms with these names are.
func truth(rows []api.Node, names string) []bool {
	l := make([]bool, len(rows))
	for id, n := range rows {
		switch n.Kind {
		case api.KAtom:
			l[id] = strings.Contains(names, n.Name)
		case api.KAnd:
			l[id] = l[n.L] && l[n.R]
		case api.KOr:
			l[id] = l[n.L] || l[n.R]
		case api.KImp:
			l[id] = !l[n.L] || l[n.R]
		}
	}
	return l
}

// isTrue tells whether a sequent is true: not all of its left side is true and its goal false.
func isTrue(row []bool, s api.Seq) bool {
	return row[s.Goal] || slices.ContainsFunc(leftOf(s), func(id int) bool { return !row[id] })
}

// TestFollowsTrue: P11.3, what is proved, at the end or on the way, is true in every row of a truth table in which all of its left side is.
func TestFollowsTrue(t *testing.T) {
	chance := newChance(8)
	many := 0
	for range 1500 {
		x := made(t, someRows(chance, 3+chance.IntN(16), 1+chance.IntN(20), 3)...)
		f, _ := search.Run(x, someSeq(chance, x.Len(), 4), 200)
		for _, names := range []string{"", "a", "b", "ab", "c", "ac", "bc", "abc"} {
			row := truth(x.Rows(), names)
			for i, step := range f.Steps {
				if step.Proved && !isTrue(row, step.Seq) {
					t.Fatalf("step %d of %s is not true where %q are; rows %v", i, show(f), names, x.Rows())
				}
				if step.Proved {
					many++
				}
			}
		}
	}
	if many < 10000 {
		t.Errorf("%d proved steps", many)
	}
}

// decided tells whether a sequent is proved, and whether the search comes to an end.
func decided(x *formula.Table, s api.Seq) (proved, ended bool) {
	f, e := search.Run(x, s, 500)
	return f.Proved, e == api.OK
}

// with is a sequent with more on its left side.
func with(s api.Seq, more ...int) api.Seq { return seq(s.Goal, append(leftOf(s), more...)...) }

// TestFollowsWeakening: P11.3, what is proved is proved with more in Left.
func TestFollowsWeakening(t *testing.T) {
	chance := newChance(9)
	many := 0
	for range 4000 {
		x := made(t, someRows(chance, 3+chance.IntN(16), 1+chance.IntN(20), 3)...)
		old := x.Len()
		s := someSeq(chance, old, 4)
		if ok, ended := decided(x, s); !ok || !ended {
			continue
		}
		more := with(s, leftOf(someSeq(chance, old, 3))...)
		if ok, ended := decided(x, more); ended {
			many++
			if !ok {
				t.Fatalf("%v |- %d is proved, and with %v it is not; rows %v", leftOf(s), s.Goal, leftOf(more), x.Rows())
			}
		}
	}
	if many < 1000 {
		t.Errorf("%d proved sequents", many)
	}
}

// TestFollowsCut: P11.3, if Left |- A and Left with A |- B are proved, so is Left |- B.
func TestFollowsCut(t *testing.T) {
	chance := newChance(10)
	many := 0
	for range 6000 {
		x := made(t, someRows(chance, 3+chance.IntN(16), 1+chance.IntN(20), 3)...)
		s := someSeq(chance, x.Len(), 4)
		a := chance.IntN(x.Len())
		if ok, ended := decided(x, seq(a, leftOf(s)...)); !ok || !ended {
			continue
		}
		if ok, ended := decided(x, with(s, a)); !ok || !ended {
			continue
		}
		if ok, ended := decided(x, s); ended {
			many++
			if !ok {
				t.Fatalf("%v |- %d is not proved, with %d, which is proved, it is; rows %v", leftOf(s), s.Goal, a, x.Rows())
			}
		}
	}
	if many < 500 {
		t.Errorf("%d cuts", many)
	}
}

// TestFollowsDeduction: P11.3, Left |- A -> B is proved just if Left with A |- B is.
func TestFollowsDeduction(t *testing.T) {
	chance := newChance(11)
	seen := map[bool]int{}
	for range 4000 {
		x := made(t, someRows(chance, 3+chance.IntN(16), 1+chance.IntN(20), 3)...)
		s := someSeq(chance, x.Len(), 4)
		a := chance.IntN(x.Len())
		imp, _ := x.Imp(a, s.Goal)
		one, ended := decided(x, seq(imp, leftOf(s)...))
		two, also := decided(x, with(s, a))
		if !ended || !also {
			continue
		}
		seen[one]++
		if one != two {
			t.Fatalf("%v |- %d: %v, and with %d |- %d: %v; rows %v", leftOf(s), imp, one, a, s.Goal, two, x.Rows())
		}
	}
	if seen[true] < 500 || seen[false] < 500 {
		t.Errorf("proved %d, refuted %d", seen[true], seen[false])
	}
}

// TestFollowsKnown: what intuitionistic logic has, and what it has not.
func TestFollowsKnown(t *testing.T) {
	for text, want := range map[string]bool{
		"p -> (q -> p)": true,
		"(p -> (q -> r)) -> ((p -> q) -> (p -> r))": true,
		"p & (q | r) <-> p & q | p & r":             true,
		"p | q & r <-> (p | q) & (p | r)":           true,
		"~~(p | ~p)":                                true,
		"~~(((p -> q) -> p) -> p)":                  true,
		"~~~p -> ~p":                                true,
		"~(p | q) <-> ~p & ~q":                      true,
		"~p | ~q -> ~(p & q)":                       true,
		"~~(p & q) <-> ~~p & ~~q":                   true,
		"~~(p -> q) <-> (~~p -> ~~q)":               true,
		"((((p -> q) -> p) -> p) -> q) -> q":        true,
		"p | q, ~p |- q":                            true,
		"(p <-> q) -> p & q & r, (q <-> r) -> p & q & r, (r <-> p) -> p & q & r |- p & q & r": true, // de Bruijn's, of three
		"(p <-> q) -> p & q, (q <-> p) -> p & q |- p & q":                                     false,
		"a | b, c | d, e | f |- a & c | a & e | c & e | b & d | b & f | d & f":                true, // three in two holes
		"true":                                   true,
		"false -> p":                             true,
		"p | ~p":                                 false,
		"~~p -> p":                               false,
		"((p -> q) -> p) -> p":                   false,
		"~p | ~~p":                               false,
		"(p -> q) | (q -> p)":                    false,
		"~(p & q) -> ~p | ~q":                    false,
		"(~q -> ~p) -> (p -> q)":                 false,
		"(~p -> q | r) -> (~p -> q) | (~p -> r)": false,
		"((~~p -> p) -> p | ~p) -> ~p | ~~p":     false,
		"(~q -> p) -> (((p -> q) -> p) -> p)":    false,
		"q | (q -> (p | ~p))":                    false,
		"a | b, c | d |- a & c | b & d":          false,
	} {
		x := formula.New()
		s := readSeq(t, x, text)
		f, e := search.Run(x, s, api.MaxVisits)
		if f.Proved != want || e != api.OK {
			t.Errorf("%s: %v, error %d, not %v", text, f.Proved, e, want)
			continue
		}
		holdOne(t, x, s, f)
		holdModel(t, x, f)
	}
}

// model is a model of worlds: above tells of each two worlds whether the second is the first or above it; val of each world and row that is an atom whether it is true there.
type model struct {
	above [][]bool
	val   [][]bool
}

// closed is an order with all that follows from it.
func closed(above [][]bool) [][]bool {
	for w := range above {
		above[w][w] = true
	}
	for mid := range above {
		for w := range above {
			for v := range above {
				above[w][v] = above[w][v] || above[w][mid] && above[mid][v]
			}
		}
	}
	return above
}

// forced tells of each world which formulas it forces.
func (m model) forced(rows []api.Node) [][]bool {
	l := make([][]bool, len(m.above))
	for w := range l {
		l[w] = make([]bool, len(rows))
	}
	for id, n := range rows {
		for w := range l {
			switch n.Kind {
			case api.KAtom:
				l[w][id] = m.val[w][id]
			case api.KAnd:
				l[w][id] = l[w][n.L] && l[w][n.R]
			case api.KOr:
				l[w][id] = l[w][n.L] || l[w][n.R]
			case api.KImp:
				l[w][id] = true
				for v, is := range m.above[w] {
					l[w][id] = l[w][id] && !(is && l[v][n.L] && !l[v][n.R])
				}
			}
		}
	}
	return l
}

// refutation is the model of steps the last of which is refuted: each stuck step is a world, in which the atoms of its left side are true, below those of its kids. The answer tells, too, which world is the last step's.
func refutation(x *formula.Table, steps []api.Step) (model, int) {
	world := func(i int) int {
		for steps[i].Rule != api.RuleStuck {
			i = steps[i].Kids[0]
		}
		return i
	}
	m := model{}
	for _, step := range steps { // what is no stuck step stands alone, and harms nothing
		m.above = append(m.above, make([]bool, len(steps)))
		m.val = append(m.val, make([]bool, x.Len()))
		last := len(m.above) - 1
		if step.Rule != api.RuleStuck {
			continue
		}
		for _, kid := range step.Kids {
			m.above[last][world(kid)] = true
		}
		for _, id := range leftOf(step.Seq) {
			m.val[last][id] = true
		}
	}
	m.above = closed(m.above)
	return m, world(len(steps) - 1)
}

// holdModel asks of steps that are refuted for a model whose root forces the left side and not the goal.
func holdModel(t *testing.T, x *formula.Table, f api.Found) {
	t.Helper()
	if f.Proved || len(f.Steps) == 0 {
		return
	}
	m, root := refutation(x, f.Steps)
	s := f.Steps[len(f.Steps)-1].Seq
	if isTrue(m.forced(x.Rows())[root], s) {
		t.Fatalf("%v |- %d is refuted, and holds in the model of %s; rows %v", leftOf(s), s.Goal, show(f), x.Rows())
	}
}

// someModel is a model by chance, in which what is true in a world is true above it.
func someModel(chance *rand.Rand, rows []api.Node, worlds int) model {
	m := model{}
	for w := range worlds {
		m.above = append(m.above, make([]bool, worlds))
		for v := range worlds {
			m.above[w][v] = v > w && chance.IntN(2) == 0
		}
		m.val = append(m.val, make([]bool, len(rows)))
	}
	m.above = closed(m.above)
	for w := range worlds {
		for id := range rows {
			if chance.IntN(4) == 0 {
				for v, is := range m.above[w] {
					m.val[v][id] = m.val[v][id] || is
				}
			}
		}
	}
	return m
}

// TestFollowsModels: what is refuted has a model of worlds that refutes it, and what is proved has none among some by chance.
func TestFollowsModels(t *testing.T) {
	chance := newChance(12)
	seen := map[bool]int{}
	for range 2000 {
		x := made(t, someRows(chance, 3+chance.IntN(16), 1+chance.IntN(20), 3)...)
		s := someSeq(chance, x.Len(), 4)
		f, e := search.Run(x, s, 150)
		if e != api.OK {
			continue
		}
		seen[f.Proved]++
		holdModel(t, x, f)
		for range 6 {
			for w, forced := range someModel(chance, x.Rows(), 1+chance.IntN(5)).forced(x.Rows()) {
				if f.Proved && !isTrue(forced, s) {
					t.Fatalf("%v |- %d is proved, and world %d refutes it; %s; rows %v", leftOf(s), s.Goal, w, show(f), x.Rows())
				}
			}
		}
	}
	if seen[true] < 500 || seen[false] < 500 {
		t.Errorf("proved %d, refuted %d", seen[true], seen[false])
	}
}
