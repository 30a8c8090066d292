package deriv_test

import (
	"math/rand/v2"
	"slices"
	"strings"
	"testing"

	"dictum/api"
	"dictum/deriv"
	"dictum/formula"
)

// truth tells which formulas are true where the atoms with these names are.
func truth(rows []api.Node, names string) []bool {
	l := make([]bool, len(rows))
	for id, n := range rows {
		switch n.Kind {
		case api.KAtom:
			l[id] = strings.Contains(names, n.Name)
		case api.KAnd:
			l[id] = l[n.L] && l[n.R]
		case api.KOr:
			l[id] = l[n.L] || l[n.R]
		case api.KImp:
			l[id] = !l[n.L] || l[n.R]
		}
	}
	return l
}

// isTrue tells whether a sequent is true: not all of its left side is true and its goal false.
func isTrue(row []bool, s api.Seq) bool {
	return row[s.Goal] || slices.ContainsFunc(leftOf(s), func(id int) bool { return !row[id] })
}

// TestFollowsTrue: P10.7, a row of a truth table that makes all of a proved sequent's left side true makes its goal true.
func TestFollowsTrue(t *testing.T) {
	chance := newChance(7)
	many := 0
	for range 1500 {
		x, steps := someSteps(t, chance, 16)
		for _, names := range []string{"", "a", "b", "ab", "c", "ac", "bc", "abc"} {
			row := truth(x.Rows(), names)
			for _, step := range steps {
				if step.Proved && !isTrue(row, step.Seq) {
					t.Fatalf("%s is not true where %q are; rows %v", show(step), names, x.Rows())
				}
				if step.Proved {
					many++
				}
			}
		}
	}
	if many < 10000 {
		t.Errorf("%d proved steps", many)
	}
}

// TestFollowsFound: P10.7, steps that a search in layer 11's order finds are right, and so is every beginning of them.
func TestFollowsFound(t *testing.T) {
	for _, c := range []struct {
		text   string
		proved bool
	}{
		{"|- p -> p", true}, {"|- p | ~p", false}, {"|- ~~(p | ~p)", true}, {"|- ((p -> q) -> p) -> p", false}, {"|- ~~(((p -> q) -> p) -> p)", true},
		{"|- (p -> q -> r) -> (p -> q) -> p -> r", true}, {"|- ~p | ~~p", false}, {"|- ~~~p -> ~p", true}, {"|- ~~p -> p", false}, {"|- (p -> q) | (q -> p)", false},
		{"p | q, ~p |- q", true}, {"|- ~(p & q) -> ~p | ~q", false}, {"|- ~(p | q) <-> ~p & ~q", true}, {"|- (~p -> q | r) -> (~p -> q) | (~p -> r)", false}, {"|- ((p | ~p) -> false) -> false", true},
		{"|- ((p -> q) -> r) -> (s -> (p -> q)) -> s -> r", true}, {"(p -> q) -> r, s -> p -> q |- s -> r", true}, {"((p -> q) -> p) -> p |- p | ~p", false}, {"false -> p, (q & r) -> p, (q | r) -> s |- q & r -> s & p", true},
	} {
		x := formula.New()
		s := readSeq(t, x, c.text)
		steps := find(t, x, s, nil, 4096)
		if len(steps) == 0 {
			t.Fatalf("%s: no steps", c.text)
		}
		for end := 1; end <= len(steps); end++ {
			right(t, x, steps[:end]...)
		}
		if got, ok, e := deriv.Tells(x, steps); got != s || ok != c.proved || e != api.OK {
			t.Errorf("%s: %v, %v, error %d", c.text, got, ok, e)
		}
	}
}

// beside is a list of right steps with others put in somewhere on which the last one does not stand, and kids renumbered.
func beside(chance *rand.Rand, steps, others []api.Step) []api.Step {
	at := chance.IntN(len(steps))
	l := slices.Concat(copied(steps[:at]), copied(others), copied(steps[at:]))
	for i := at; i < at+len(others); i++ {
		for k := range l[i].Kids {
			l[i].Kids[k] += at
		}
	}
	for i := at + len(others); i < len(l); i++ {
		for k, kid := range l[i].Kids {
			if kid >= at {
				l[i].Kids[k] += len(others)
			}
		}
	}
	return l
}

// TestFollowsBeside: P10.7, what Trim and the measures answer does not depend on steps on which the last one does not stand; Trim of Trim is Trim, and tells the same; Height and Uses' sum are at most Unfold.
func TestFollowsBeside(t *testing.T) {
	chance := newChance(8)
	for range 600 {
		x, steps := someSteps(t, chance, 14)
		others := find(t, x, someSeq(chance, x.Len(), 3), chance, 30)
		if steps == nil || others == nil {
			continue
		}
		more := beside(chance, steps, others)
		right(t, x, more...)
		one, _ := deriv.Trim(x, steps)
		two, e := deriv.Trim(x, more)
		again, f := deriv.Trim(x, one)
		if e != api.OK || f != api.OK || !alike(one, two) || !alike(one, again) {
			t.Fatalf("%s and %s: %s, %s, %s", showAll(steps), showAll(more), showAll(one), showAll(two), showAll(again))
		}
		seqs, proved, _ := deriv.Tells(x, more)
		if s, ok, e := deriv.Tells(x, one); s != seqs || ok != proved || e != api.OK {
			t.Fatalf("%s tells otherwise", showAll(one))
		}
		holdSame(t, x, steps, more)
		holdSame(t, x, steps, one)
	}
}

// holdSame asks for the same measures of two lists, and that they are at most Unfold.
func holdSame(t *testing.T, x *formula.Table, a, b []api.Step) {
	t.Helper()
	high, _ := deriv.Height(x, a)
	unfold, _ := deriv.Unfold(x, a)
	uses, _ := deriv.Uses(x, a)
	reach, _ := deriv.Reach(x, a)
	h, _ := deriv.Height(x, b)
	u, _ := deriv.Unfold(x, b)
	s, _ := deriv.Uses(x, b)
	r, _ := deriv.Reach(x, b)
	if high != h || unfold != u || !slices.Equal(uses, s) || len(reach) != len(r) {
		t.Fatalf("%s: %d, %d, %v; %s: %d, %d, %v", showAll(a), high, unfold, uses, showAll(b), h, u, s)
	}
	sum := 0
	for _, n := range uses {
		sum += n
	}
	if high > unfold || sum > unfold || sum != len(reach) {
		t.Fatalf("%s: Height %d, Uses %v, Unfold %d", showAll(a), high, uses, unfold)
	}
}

// TestFollowsOne: P10.7, no sequent is proved by right steps and refuted by others: whatever order the rules are tried in, the same is told.
func TestFollowsOne(t *testing.T) {
	chance := newChance(9)
	seen := map[bool]int{}
	for range 400 {
		x := made(t, someRows(chance, 3+chance.IntN(16), 1+chance.IntN(20), 3)...)
		s := someSeq(chance, x.Len(), 4)
		steps := find(t, x, s, nil, 200)
		if steps == nil {
			continue
		}
		_, want, e := deriv.Tells(x, steps)
		for range 4 {
			others := find(t, x, s, chance, 400)
			if others == nil {
				continue
			}
			if _, ok, f := deriv.Tells(x, others); ok != want || e != api.OK || f != api.OK {
				t.Fatalf("%s, error %d; %s, error %d", showAll(steps), e, showAll(others), f)
			}
			seen[want]++
		}
	}
	if seen[true] < 200 || seen[false] < 200 {
		t.Errorf("proved %d, refuted %d", seen[true], seen[false])
	}
}

// TestFollowsTexts: P10.6 and P10.7, Parse of what Print writes, with the same table, are the same steps, and puts nothing into it; also of a table that is full.
func TestFollowsTexts(t *testing.T) {
	chance := newChance(10)
	for i := range 400 {
		x, steps := someSteps(t, chance, 24)
		if steps == nil {
			continue
		}
		if i%20 == 0 {
			x = filled(t, x.Rows(), api.MaxForms)
		}
		if text, e := deriv.Print(x, steps); e == api.OK {
			parses(t, x, text, steps)
		}
	}
}
