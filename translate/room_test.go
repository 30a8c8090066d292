package translate_test

import (
	"testing"

	"dictum/api"
	"dictum/formula"
	"dictum/term"
	"dictum/translate"
	"dictum/types"
)

// tower puts steps with p (row 0) alone on the left side on one another: each is a number of a step.
type tower struct {
	t     *testing.T
	table *formula.Table
	steps []api.Step
}

// newTower has a table with p, and the step p |- p.
func newTower(t *testing.T) *tower {
	return &tower{t, made(t, atom("p")), []api.Step{proved(seq(0, 0), api.RuleId, 0)}}
}

// put puts a step behind the others.
func (w *tower) put(goal int, e api.Errno, k api.Rule, kids ...int) int {
	w.t.Helper()
	if e != api.OK {
		w.t.Fatalf("row %d: error %d", w.table.Len(), e)
	}
	w.steps = append(w.steps, proved(seq(goal, 0), k, goal, kids...))
	return len(w.steps) - 1
}

// pair is a step with the terms of two others, and a node.
func (w *tower) pair(a, b int) int {
	w.t.Helper()
	goal, e := w.table.And(w.steps[a].Seq.Goal, w.steps[b].Seq.Goal)
	return w.put(goal, e, api.RuleAndR, a, b)
}

// fun is a step with the term of another one, and a node.
func (w *tower) fun(a int) int {
	w.t.Helper()
	goal, e := w.table.Imp(0, w.steps[a].Seq.Goal)
	return w.put(goal, e, api.RuleImpR, a)
}

// funs is so many of them, one on the other.
func (w *tower) funs(many int, a int) int {
	w.t.Helper()
	for range many {
		a = w.fun(a)
	}
	return a
}

// nodes is a step whose term has just so many of them.
func (w *tower) nodes(many int) int {
	w.t.Helper()
	switch {
	case many == 1:
		return 0
	case many%2 == 0:
		return w.fun(w.nodes(many - 1))
	}
	half := w.nodes((many - 1) / 2)
	return w.pair(half, half)
}

// TestNodes: P15.2, just MaxTerm nodes, and more.
func TestNodes(t *testing.T) {
	for _, many := range []int{1, 2, 3, 4, 5, 6, 7, 100, 4095, 40000, 65534, 65535, 65536, 65537, 65538, 65539, 70000, 131071, 131072, 1 << 20} {
		w := newTower(t)
		at := w.nodes(many)
		n, levels, e := translate.Size(w.table, w.steps, at)
		if n != many || levels > 40 || e != api.OK {
			t.Errorf("%d nodes, %d levels, error %d, not %d", n, levels, e, many)
		}
		if many > 65536 {
			tooBig(t, w.table, w.steps, at, many, levels)
			continue
		}
		x, e := translate.Term(w.table, w.steps, at)
		if e != api.OK || term.Check(x) != api.OK || term.Size(x) != many || term.Deep(x) != levels {
			t.Errorf("%d nodes, %d levels, error %d, not %d, %d", term.Size(x), term.Deep(x), e, many, levels)
		}
		if e := types.Check(w.table, translate.Hyps(w.steps[at].Seq), x, w.steps[at].Seq.Goal); e != api.OK {
			t.Errorf("%d nodes: error %d", many, e)
		}
	}
}

// TestCountsEnd: P15.2, counts of nodes end at 2^31 - 1, and go no way round, however many there are.
func TestCountsEnd(t *testing.T) {
	for _, many := range []int{1<<31 - 3, 1<<31 - 2, 1<<31 - 1, 1 << 31, 1<<31 + 1, 1<<32 - 1, 1 << 32, 1<<32 + 1, 1 << 40, 1<<62 + 12345} {
		w := newTower(t)
		at := w.nodes(many)
		all := counts(w.steps)
		if !all[at].nodes.IsInt64() || int(all[at].nodes.Int64()) != many {
			t.Fatal(all[at].nodes, many)
		}
		tooBig(t, w.table, w.steps, at, min(many, 2147483647), all[at].levels)
	}
	w := newTower(t)
	at := 0
	for i := range 1000 {
		at = w.pair(at, at) // 2^(i + 2) - 1 nodes
		want := 2147483647
		if i < 29 {
			want = 1<<(i+2) - 1
		}
		if i%50 < 3 || i > 26 && i < 35 || i > 60 && i < 67 {
			n, levels, e := translate.Size(w.table, w.steps, at)
			if n != want || levels != i+2 || e != api.OK {
				t.Errorf("%d times: %d nodes, %d levels, error %d, not %d", i+1, n, levels, e, want)
			}
		}
	}
	tooBig(t, w.table, w.steps, at, 2147483647, 1001)
	// What a step that is too big stands on is not, and what stands beside it neither.
	small := w.fun(0)
	gives(t, w.table, w.steps, small, api.Term{Kind: api.TLam, Name: "h0", Sub: []api.Term{v("h0")}})
	one, e := translate.Term(w.table, w.steps, 15)
	if e != api.OK || term.Size(one) != 65535 || term.Deep(one) != 16 {
		t.Errorf("%d nodes, %d levels, error %d", term.Size(one), term.Deep(one), e)
	}
	tooBig(t, w.table, w.steps, 16, 131071, 17)
}

// TestLevels: P15.2, just MaxDeep levels, and more, of few nodes.
func TestLevels(t *testing.T) {
	for many := 1015; many < 1023; many++ {
		w := newTower(t)
		m, e := w.table.And(0, 0)
		if e != api.OK || m != 1 {
			t.Fatal(m, e)
		}
		top := w.funs(many, 0)
		sizes(t, w.table, w.steps, top, many+1, many+1)
		// p & p |- p -> .. -> p: let h0 = fst h1 in let h0 = snd h1 in fun h0 => .. => h0.
		goal := w.steps[top].Seq.Goal
		w.steps = append(w.steps, proved(seq(goal, m), api.RuleAndL, m, top))
		at := len(w.steps) - 1
		if many+3 > 1024 {
			tooBig(t, w.table, w.steps, at, many+7, many+3)
			continue
		}
		sizes(t, w.table, w.steps, at, many+7, many+3)
		x, e := translate.Term(w.table, w.steps, at)
		if e != api.OK || term.Check(x) != api.OK || term.Deep(x) != many+3 || types.Check(w.table, translate.Hyps(seq(goal, m)), x, goal) != api.OK {
			t.Errorf("%d levels, error %d, not %d", term.Deep(x), e, many+3)
		}
	}
	w := newTower(t)
	at := w.funs(api.MaxForms-1, 0)
	x, e := translate.Term(w.table, w.steps, at)
	if e != api.OK || term.Size(x) != 1024 || term.Deep(x) != 1024 {
		t.Errorf("%d nodes, %d levels, error %d", term.Size(x), term.Deep(x), e)
	}
}

// TestLevelsFar: P15.2, far more levels than MaxDeep are told as they are.
func TestLevelsFar(t *testing.T) {
	f := rowsOf(t, "p", "p & p")
	steps := []api.Step{proved(seq(0, 0), api.RuleId, 0)}
	nodes, levels := 1, 1
	for f.Len() < api.MaxForms {
		goal := steps[len(steps)-1].Seq.Goal
		more, e := f.Imp(1, goal) // p |- p & p -> goal, by p, p & p |- goal, by p |- goal
		if e != api.OK {
			t.Fatal(e)
		}
		steps = append(steps, proved(seq(goal, 0, 1), api.RuleAndL, 1, len(steps)-1))
		steps = append(steps, proved(seq(more, 0), api.RuleImpR, more, len(steps)-1))
		nodes, levels = nodes+7, max(levels+2, 4)+1
		if last := len(steps) - 1; levels > api.MaxDeep && (levels < 1030 || levels > 3060) {
			tooBig(t, f, steps, last, nodes, levels)
		}
	}
	if levels < 3000 {
		t.Error(levels)
	}
}

// TestBothBounds: P15.2, what is within both bounds just so is not refused.
func TestBothBounds(t *testing.T) {
	for _, more := range []int{0, 1} {
		w := newTower(t)
		deep := w.funs(980, 0) // 981 levels and nodes
		wide := w.nodes(65536 - 981 - 1 + more)
		at := w.pair(wide, deep)
		if more > 0 {
			tooBig(t, w.table, w.steps, at, 65537, 982)
			continue
		}
		x, e := translate.Term(w.table, w.steps, at)
		if e != api.OK || term.Size(x) != 65536 || term.Deep(x) != 982 {
			t.Errorf("%d nodes, %d levels, error %d", term.Size(x), term.Deep(x), e)
		}
	}
}

// TestBigAndWrong: P15.2, ErrSteps and ErrArg come ahead of ErrBig, also where the wrong step stands behind the one that is asked for.
func TestBigAndWrong(t *testing.T) {
	w := newTower(t)
	at := w.nodes(70000)
	n, levels, _ := translate.Size(w.table, w.steps, at)
	tooBig(t, w.table, w.steps, at, n, levels)
	refuses(t, w.table, w.steps, at+1, api.ErrArg)
	w.steps = append(w.steps, stuck(seq(0)))
	tooBig(t, w.table, w.steps, at, n, levels)
	refuses(t, w.table, w.steps, at+1, api.ErrArg)
	w.steps = append(w.steps, proved(seq(0), api.RuleId, 0))
	refuses(t, w.table, w.steps, at, api.ErrSteps)
	refuses(t, w.table, w.steps, at+1, api.ErrSteps)
}

// TestManyImpBot: P15.3, steps by RuleImpBot add neither nodes nor levels, as many as they are.
func TestManyImpBot(t *testing.T) {
	f := rowsOf(t, "p", "false")
	steps := []api.Step{proved(seq(0, 0), api.RuleId, 0)}
	s := seq(0, 0)
	last := 0
	for f.Len() < api.MaxForms-1 {
		id, e := f.Imp(1, last) // false -> (false -> .. p)
		if e != api.OK {
			t.Fatal(e)
		}
		last = id
		s.Left[id/64] |= 1 << (id % 64)
		steps = append(steps, proved(s, api.RuleImpBot, id, len(steps)-1))
	}
	for _, at := range []int{0, 1, 2, 500, 1000, len(steps) - 1} {
		gives(t, f, steps, at, v("h0"))
	}
	goal, _ := f.And(0, 0)
	kid := len(steps) - 1
	steps = append(steps, proved(api.Seq{Left: s.Left, Goal: goal}, api.RuleAndR, goal, kid, kid))
	gives(t, f, steps, len(steps)-1, of(api.TPair, v("h0"), v("h0")))
	if len(steps) != 1023 {
		t.Error(len(steps))
	}
}

// TestFarDown: R1 and P15.2, thousands of steps that stand on one another: RuleImpBot's formulas come back again and again.
func TestFarDown(t *testing.T) {
	f := rowsOf(t, "p", "false")
	var back []int // false -> p, false -> (false -> p), ..
	last := 0
	for range 300 {
		last, _ = f.Imp(1, last)
		back = append(back, last)
	}
	all := 0 // these and p joined, which brings them back once it is on the left side
	for _, id := range back {
		all, _ = f.And(id, all)
	}
	steps := []api.Step{proved(seq(0, 0), api.RuleId, 0)}
	levels := 1
	for range 4 {
		steps, levels = again(t, f, steps, back, all, levels)
	}
	at := len(steps) - 1
	n, d, e := translate.Size(f, steps, at)
	if e != api.OK || d != levels || d <= api.MaxDeep || n != told(counts(steps)[at].nodes) {
		t.Errorf("%d nodes, %d levels, error %d, not %d levels", n, d, e, levels)
	}
	holdsSome(t, f, steps)
}

// again goes from p |- goal on to p |- all -> goal: all is taken apart, and what it is made of is dropped by RuleImpBot.
func again(t *testing.T, f *formula.Table, steps []api.Step, back []int, all, levels int) ([]api.Step, int) {
	t.Helper()
	goal := steps[len(steps)-1].Seq.Goal
	left := []int{0}
	for _, id := range back {
		left = append(left, id)
		steps = append(steps, proved(seq(goal, left...), api.RuleImpBot, id, len(steps)-1))
	}
	part := 0 // all's parts, from the innermost on
	for i, id := range back {
		part, _ = f.And(id, part)
		left = append([]int{0, part}, back[i+1:]...)
		steps = append(steps, proved(seq(goal, left...), api.RuleAndL, part, len(steps)-1))
		levels = max(levels+2, 4)
	}
	more, e := f.Imp(all, goal)
	if e != api.OK || part != all {
		t.Fatal(part, all, e)
	}
	steps = append(steps, proved(seq(more, 0), api.RuleImpR, more, len(steps)-1))
	return steps, levels + 1
}

// holdsSome holds some of many steps against their counts.
func holdsSome(t *testing.T, f *formula.Table, steps []api.Step) {
	t.Helper()
	all := counts(steps)
	for at := 0; at < len(steps); at += 1 + at/3 {
		nodes, levels := told(all[at].nodes), all[at].levels
		if levels > api.MaxDeep {
			tooBig(t, f, steps, at, nodes, levels)
			continue
		}
		x, e := translate.Term(f, steps, at)
		if e != api.OK || term.Size(x) != nodes || term.Deep(x) != levels || types.Check(f, translate.Hyps(steps[at].Seq), x, steps[at].Seq.Goal) != api.OK {
			t.Errorf("step %d: %d nodes, %d levels, error %d, not %d, %d", at, term.Size(x), term.Deep(x), e, nodes, levels)
		}
	}
}
