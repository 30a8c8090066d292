package deriv_test

import (
	"math"
	"math/big"
	"slices"
	"testing"

	"dictum/api"
	"dictum/deriv"
	"dictum/formula"
)

// plainReach is P10.3's Reach, by a step's own kids, theirs, and so on.
func plainReach(steps []api.Step) []int {
	var l []int
	var down func(i int)
	down = func(i int) {
		if slices.Contains(l, i) {
			return
		}
		l = append(l, i)
		for _, kid := range steps[i].Kids {
			down(kid)
		}
	}
	down(len(steps) - 1)
	slices.Sort(l)
	return l
}

// plainTrim is P10.3's Trim.
func plainTrim(steps []api.Step) []api.Step {
	reach := plainReach(steps)
	var l []api.Step
	for _, i := range reach {
		step := steps[i]
		step.Kids = nil
		for _, kid := range steps[i].Kids {
			step.Kids = append(step.Kids, slices.Index(reach, kid))
		}
		l = append(l, step)
	}
	return l
}

// plainHeight is P10.4's Height of a step.
func plainHeight(steps []api.Step, i int) int {
	high := 0
	for _, kid := range steps[i].Kids {
		high = max(high, plainHeight(steps, kid))
	}
	return 1 + high
}

// plainUnfold is P10.4's Unfold of each step, without a bound.
func plainUnfold(steps []api.Step) []*big.Int {
	var l []*big.Int
	for _, step := range steps {
		n := big.NewInt(1)
		for _, kid := range step.Kids {
			n.Add(n, l[kid])
		}
		l = append(l, n)
	}
	return l
}

// plainUses is P10.4's Uses.
func plainUses(steps []api.Step) []int {
	l := make([]int, 15)
	for _, i := range plainReach(steps) {
		l[steps[i].Rule]++
	}
	return l
}

// measures asks for what the plain reading says of steps that are right, of every call, and for a table and steps that are as they were.
func measures(t *testing.T, x *formula.Table, steps []api.Step) {
	t.Helper()
	rows, before := x.Rows(), copied(steps)
	last := len(steps) - 1
	if s, ok, e := deriv.Tells(x, steps); s != steps[last].Seq || ok != steps[last].Proved || e != api.OK {
		t.Fatalf("Tells of %s: %v, %v, error %d", showAll(steps), s, ok, e)
	}
	if l, e := deriv.Reach(x, steps); !slices.Equal(l, plainReach(steps)) || e != api.OK {
		t.Fatalf("Reach of %s: %v, error %d", showAll(steps), l, e)
	}
	if l, e := deriv.Trim(x, steps); !alike(l, plainTrim(steps)) || e != api.OK {
		t.Fatalf("Trim of %s: %s, error %d", showAll(steps), showAll(l), e)
	}
	unfolds := plainUnfold(steps)[last]
	want := api.MaxCount
	if unfolds.IsInt64() {
		want = int(min(unfolds.Int64(), api.MaxCount))
	}
	if n, e := deriv.Unfold(x, steps); n != want || e != api.OK {
		t.Fatalf("Unfold of %s: %d, error %d, not %d", showAll(steps), n, e, want)
	}
	if l, e := deriv.Uses(x, steps); !slices.Equal(l, plainUses(steps)) || e != api.OK {
		t.Fatalf("Uses of %s: %v, error %d", showAll(steps), l, e)
	}
	if !slices.Equal(x.Rows(), rows) || !alike(steps, before) {
		t.Fatalf("the table or %s has changed", showAll(before))
	}
}

// height asks for that Height.
func height(t *testing.T, x *formula.Table, steps []api.Step, want int) {
	t.Helper()
	if n, e := deriv.Height(x, steps); n != want || e != api.OK {
		t.Fatalf("Height of %s: %d, error %d, not %d", showAll(steps), n, e, want)
	}
}

// TestMeasures: P10.3 and P10.4, of a list with steps that the last one does not stand on, and kids that stand twice.
func TestMeasures(t *testing.T) {
	x := example(t)
	and, _ := x.And(0, 0)
	both, _ := x.And(and, 3)
	id, more := proved(seq(0, 0), api.RuleId, 0), proved(seq(1, 0, 1), api.RuleId, 1)
	steps := []api.Step{
		more,
		id,
		stuck(seq(1)),
		proved(seq(and, 0), api.RuleAndR, and, 1, 1),
		stuck(seq(0)),
		proved(seq(3, 0), api.RuleOrR1, 3, 1),
		stuck(seq(3), 4, 2),
		proved(seq(both, 0), api.RuleAndR, both, 3, 5),
	}
	right(t, x, steps...)
	measures(t, x, steps)
	if l, _ := deriv.Reach(x, steps); !slices.Equal(l, []int{1, 3, 5, 7}) {
		t.Errorf("Reach: %v", l)
	}
	want := []api.Step{
		id,
		proved(seq(and, 0), api.RuleAndR, and, 0, 0),
		proved(seq(3, 0), api.RuleOrR1, 3, 0),
		proved(seq(both, 0), api.RuleAndR, both, 1, 2),
	}
	if l, _ := deriv.Trim(x, steps); !alike(l, want) {
		t.Errorf("Trim: %s", showAll(l))
	}
	height(t, x, steps, 3)
	if n, _ := deriv.Unfold(x, steps); n != 6 {
		t.Errorf("Unfold: %d", n)
	}
	if l, _ := deriv.Uses(x, steps); !slices.Equal(l, []int{0, 0, 1, 0, 0, 0, 0, 0, 0, 2, 0, 1, 0, 0, 0}) {
		t.Errorf("Uses: %v", l)
	}
	if s, ok, _ := deriv.Tells(x, steps); s != seq(both, 0) || !ok {
		t.Errorf("Tells: %v, %v", s, ok)
	}
	measures(t, x, steps[:7])
	height(t, x, steps[:7], 2)
	if l, _ := deriv.Reach(x, steps[:7]); !slices.Equal(l, []int{2, 4, 6}) {
		t.Errorf("Reach: %v", l)
	}
	if l, _ := deriv.Uses(x, steps[:7]); !slices.Equal(l, []int{0, 0, 0, 0, 0, 0, 0, 0, 0, 0, 0, 0, 0, 0, 3}) {
		t.Errorf("Uses: %v", l)
	}
	if s, ok, _ := deriv.Tells(x, steps[:7]); s != seq(3) || ok {
		t.Errorf("Tells: %v, %v", s, ok)
	}
}

// TestMeasuresOne: P10.3 and P10.4, of a list of one step.
func TestMeasuresOne(t *testing.T) {
	x := example(t)
	for _, step := range []api.Step{proved(seq(0, 0), api.RuleId, 0), proved(seq(1, 2), api.RuleBot, 2), stuck(seq(2))} {
		measures(t, x, []api.Step{step})
		height(t, x, []api.Step{step}, 1)
		if n, _ := deriv.Unfold(x, []api.Step{step}); n != 1 {
			t.Errorf("Unfold: %d", n)
		}
	}
}

// TestMeasuresChance: P10.3 and P10.4, steps by chance, against the plain reading.
func TestMeasuresChance(t *testing.T) {
	chance := newChance(4)
	several, rules := 0, make([]int, 15)
	for range 1500 {
		x, steps := someSteps(t, chance, 20)
		if steps == nil {
			continue
		}
		// Every beginning of right steps is a list of right steps.
		for _, end := range []int{len(steps), 1 + chance.IntN(len(steps))} {
			l := steps[:end]
			measures(t, x, l)
			height(t, x, l, plainHeight(l, end-1))
			if len(plainReach(l)) < end {
				several++
			}
		}
		for i, n := range plainUses(steps) {
			rules[i] += n
		}
	}
	if several < 100 || slices.Min(rules[1:]) < 20 {
		t.Errorf("%d lists with steps beside; rules %v", several, rules)
	}
}

// doubling is a table in which p is 0 and each further row the row ahead of it & itself, and steps that prove each of them from p by the one ahead twice.
func doubling(t *testing.T, many int) (*formula.Table, []api.Step) {
	t.Helper()
	x := made(t, atom("p"))
	steps := []api.Step{proved(seq(0, 0), api.RuleId, 0)}
	for id := 1; id < many; id++ {
		if _, e := x.And(id-1, id-1); e != api.OK {
			t.Fatal(e)
		}
		steps = append(steps, proved(seq(id, 0), api.RuleAndR, id, id-1, id-1))
	}
	return x, steps
}

// TestUnfoldMost: P10.4, Unfold ends at MaxCount: just below it, at it, above it, and where it would be more than any number holds.
func TestUnfoldMost(t *testing.T) {
	x, steps := doubling(t, 40)
	unfolds := func(x *formula.Table, steps []api.Step, want int) {
		t.Helper()
		if n, e := deriv.Unfold(x, steps); n != want || e != api.OK {
			t.Errorf("%d steps: %d, error %d, not %d", len(steps), n, e, want)
		}
	}
	unfolds(x, steps[:39], 1<<39-1)
	unfolds(x, steps, api.MaxCount-1)
	one, _ := x.Or(39, 0)
	two, _ := x.Or(one, 0)
	steps = append(steps, proved(seq(one, 0), api.RuleOrR1, one, 39))
	unfolds(x, steps, api.MaxCount)
	steps = append(steps, proved(seq(two, 0), api.RuleOrR1, two, 40))
	unfolds(x, steps, api.MaxCount)
	height(t, x, steps, 42)

	y, more := doubling(t, api.MaxForms)
	for _, end := range []int{41, 42, 62, 63, 64, 65, 66, 127, 128, 1000, api.MaxForms} {
		unfolds(y, more[:end], api.MaxCount)
		measures(t, y, more[:end])
		height(t, y, more[:end], end)
	}
}

// TestAnswersOwn: R3, an answer's lists are the caller's own: what is done to one changes neither the steps nor another list.
func TestAnswersOwn(t *testing.T) {
	x, steps := doubling(t, 8)
	before := copied(steps)
	trimmed, _ := deriv.Trim(x, steps)
	for i := range trimmed {
		want := copied(trimmed)
		trimmed[i].Kids = append(trimmed[i].Kids, 77)
		for j := range trimmed[i].Kids {
			trimmed[i].Kids[j] = math.MaxInt
		}
		want[i].Kids = trimmed[i].Kids
		if !alike(trimmed, want) {
			t.Fatalf("the kids of step %d are another one's, too", i)
		}
	}
	reach, _ := deriv.Reach(x, steps)
	uses, _ := deriv.Uses(x, steps)
	for i := range reach {
		reach[i] = -1
	}
	clear(uses)
	if !alike(steps, before) {
		t.Error("the steps have changed")
	}
	right(t, x, steps...)
	measures(t, x, steps)
}

// TestName: P10.5.
func TestName(t *testing.T) {
	want := []string{"bot", "id", "andl", "impatom", "impbot", "impand", "impor", "impr", "andr", "orl", "orr1", "orr2", "impimp", "stuck"}
	for i, name := range want {
		if got := deriv.Name(api.Rule(i + 1)); got != name {
			t.Errorf("rule %d: %q, not %q", i+1, got, name)
		}
	}
	for _, k := range noRules() {
		if got := deriv.Name(k); got != "" {
			t.Errorf("rule %d: %q", k, got)
		}
	}
}
