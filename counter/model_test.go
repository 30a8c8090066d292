package counter_test

import (
	"slices"
	"testing"

	"dictum/api"
	"dictum/counter"
	"dictum/formula"
)

// TestWorldByEachRule: P20.1, a step that is refuted by each rule that may refute: its kid's world, however far that is.
func TestWorldByEachRule(t *testing.T) {
	for _, c := range []struct {
		rule api.Rule
		text string
	}{
		{api.RuleAndL, "p & q |- r"}, {api.RuleImpAtom, "p, p -> q |- r"}, {api.RuleImpBot, "false -> p |- r"}, {api.RuleImpAnd, "p & q -> r |- r"}, {api.RuleImpOr, "p | q -> r |- r"},
		{api.RuleImpR, "|- p -> q"}, {api.RuleAndR, "|- p & q"}, {api.RuleOrL, "p | q |- r"}, {api.RuleImpImp, "(p -> p) -> q |- r"},
	} {
		x := formula.New()
		steps := searched(t, x, c.text)
		last := len(steps) - 1
		if steps[last].Rule != c.rule || steps[last].Proved {
			t.Fatalf("%s: %s", c.text, showSteps(steps))
		}
		w, e := counter.World(x, steps, last)
		if other, _ := counter.World(x, steps, steps[last].Kids[0]); w != other || w >= last || steps[w].Rule != api.RuleStuck || e != api.OK {
			t.Errorf("%s: %d, error %d; %s", c.text, w, e, showSteps(steps))
		}
		heldStep(t, x, steps, last)
	}
}

// TestWorldOfStuck: P20.1, a stuck step is its own world, whether it has kids or not.
func TestWorldOfStuck(t *testing.T) {
	x, steps := exampleTable(t), exampleSteps()
	for _, at := range to(0, 1, 3) {
		if w, e := counter.World(x, steps, at); w != at || e != api.OK {
			t.Error(at, w, e)
		}
	}
}

// TestModelOfOthers: P20.2, a step that is not stuck has the model of its world, and so have all that stand on one another.
func TestModelOfOthers(t *testing.T) {
	x := formula.New()
	steps := searched(t, x, "p & q |- (q -> r) & p")
	right(t, x, steps)
	last := len(steps) - 1
	want, l, e := counter.Model(x, steps, last)
	if !alike(want, with(apart(1), "p,q")) || !slices.Equal(l, to(0)) || e != api.OK {
		t.Fatal(show(want), l, e, showSteps(steps))
	}
	for at := range steps {
		if m, from, e := counter.Model(x, steps, at); !alike(m, want) || !slices.Equal(from, l) || e != api.OK {
			t.Error(at, show(m), from, e)
		}
	}
}

// TestModelOrder: P20.2, the greater step number first, whichever kid it is; Up rises, though kids fall; a world that stands above several, or is two kids' world, comes once.
func TestModelOrder(t *testing.T) {
	x := made(t, atom("p"), atom("q"), join(api.KOr, 0, 1), join(api.KOr, 2, 0), join(api.KOr, 3, 2), join(api.KOr, 0, 0))
	steps := []api.Step{
		stuck(seq(1)),        // 0: q
		stuck(seq(0)),        // 1: p
		stuck(seq(2), 1, 0),  // 2: p | q
		stuck(seq(3), 2, 1),  // 3: (p | q) | p
		stuck(seq(4), 3, 2),  // 4: ((p | q) | p) | (p | q)
		stuck(seq(5), 1, 1),  // 5: p | p
		stuck(seq(0)),        // 6: p once more
		stuck(seq(5), 6, 1),  // 7: p | p once more
		stuck(seq(2), 6, 0),  // 8: p | q once more
		stuck(seq(3), 2, 6),  // 9: (p | q) | p once more: its kids are 2 and 6
		stuck(seq(4), 9, 8),  // 10
		stuck(seq(3), 8, 1),  // 11
		stuck(seq(4), 11, 2), // 12
	}
	right(t, x, steps)
	for _, c := range []struct {
		at   int
		want [][]int
		from []int
	}{
		{0, [][]int{nil}, to(0)},
		{2, [][]int{{1, 2}, nil, nil}, to(2, 1, 0)},
		{3, [][]int{{1, 2}, {2, 3}, nil, nil}, to(3, 2, 1, 0)},
		{4, [][]int{{1, 2}, {2, 3}, {3, 4}, nil, nil}, to(4, 3, 2, 1, 0)},
		{5, [][]int{{1}, nil}, to(5, 1)},
		{7, [][]int{{1, 2}, nil, nil}, to(7, 6, 1)},
		{8, [][]int{{1, 2}, nil, nil}, to(8, 6, 0)},
		{9, [][]int{{1, 2}, nil, {3, 4}, nil, nil}, to(9, 6, 2, 1, 0)},
		{10, [][]int{{1, 2}, {3, 4}, {3, 6}, nil, {5, 6}, nil, nil}, to(10, 9, 8, 6, 2, 1, 0)},
		{12, [][]int{{1, 4}, {2, 5}, {3, 6}, nil, {5, 6}, nil, nil}, to(12, 11, 8, 6, 2, 1, 0)},
	} {
		m, l, e := counter.Model(x, steps, c.at)
		if !alike(m, up(c.want...)) || !slices.Equal(l, c.from) || e != api.OK {
			t.Errorf("%d: %s of %v, error %d", c.at, show(m), l, e)
		}
		heldStep(t, x, steps, c.at)
	}
}

// TestModelVal: P20.2, the atoms on the left side by bytes, whatever their numbers; nothing else that stands there.
func TestModelVal(t *testing.T) {
	x := made(t, atom("q"), atom("p_"), atom("P"), atom("p"), atom("r"), atom("p'"), join(api.KImp, 4, 0), atom("p0"), bot(), join(api.KImp, 4, 8), atom("pp"))
	for _, c := range []struct {
		left []int
		want string
	}{
		{nil, ""}, {to(0), "q"}, {to(0, 3), "p,q"}, {to(2, 3), "P,p"}, {to(6, 9), ""}, {to(0, 1, 2, 3, 5, 6, 7, 9, 10), "P,p,p',p0,p_,pp,q"}, {to(5, 7), "p',p0"}, {to(1, 10), "p_,pp"},
	} {
		steps := []api.Step{stuck(seq(4, c.left...))}
		right(t, x, steps)
		m, l, e := counter.Model(x, steps, 0)
		if !alike(m, with(apart(1), c.want)) || !slices.Equal(l, to(0)) || e != api.OK {
			t.Errorf("%v: %s of %v, error %d", c.left, show(m), l, e)
		}
	}
}

// TestModelNotOfOthers: P20.2, steps that a world does not stand on are no worlds, be they ahead, behind or between.
func TestModelNotOfOthers(t *testing.T) {
	x := exampleTable(t)
	steps := behind(behind([]api.Step{stuck(seq(1)), stuck(seq(1, 0))}, exampleSteps()), exampleSteps())
	steps = append(steps, proved(seq(0, 0), api.RuleId, 0), stuck(seq(2, 1)))
	right(t, x, steps)
	for at, want := range map[int][]int{5: {5, 3, 2}, 9: {9, 7, 6}, 4: {3}, 8: {7}, 11: {11}, 0: {0}, 1: {1}} {
		_, l, e := counter.Model(x, steps, at)
		if !slices.Equal(l, want) || e != api.OK {
			t.Error(at, l, e)
		}
		heldStep(t, x, steps, at)
	}
}

// TestKnown: P20.5, formulas that are known not to be provable have models whose world 0 does not force them.
func TestKnown(t *testing.T) {
	for _, text := range []string{
		"|- p", "|- false", "|- p | ~p", "|- ~~p -> p", "|- ~p | ~~p", "|- ((p -> q) -> p) -> p", "|- (p -> q) | (q -> p)", "|- ~(p & q) -> ~p | ~q", "|- (~p -> q | r) -> (~p -> q) | (~p -> r)",
		"|- ((~~p -> p) -> p | ~p) -> ~p | ~~p", "|- (p -> q | r) -> (p -> q) | (p -> r)", "~~p |- p", "p -> q |- ~p | q", "~~(p | q) |- ~~p | ~~q", "(p -> q) -> r, q -> r |- p | r", "|- p2 | (p2 -> p1 | ~p1)", "|- p3 | (p3 -> p2 | (p2 -> p1 | ~p1))",
	} {
		x := formula.New()
		steps := searched(t, x, text)
		last := len(steps) - 1
		m, _ := heldStep(t, x, steps, last)
		if empty(m) {
			t.Fatalf("%s is proved", text)
		}
		if is, e := counter.Refutes(x, m, 0, steps[last].Seq); !is || e != api.OK {
			t.Errorf("%s: %v, error %d", text, is, e)
		}
		heldSeq(t, x, m, steps[last].Seq)
	}
}
