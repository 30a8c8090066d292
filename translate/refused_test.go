package translate_test

import (
	"math"
	"testing"

	"dictum/api"
	"dictum/formula"
	"dictum/search"
	"dictum/translate"
)

// TestNoTable: R1 and P15.2, a table that no call made is ErrNil, ahead of all else that is wrong, and stays none.
func TestNoTable(t *testing.T) {
	good := []api.Step{proved(seq(0, 0), api.RuleId, 0)}
	for _, f := range []*formula.Table{nil, {}, new(formula.Table)} {
		for _, steps := range [][]api.Step{nil, {}, {{}}, good, {stuck(seq(0))}, {proved(seq(5, 1023), 99, math.MaxInt, -1)}} {
			for _, at := range append(noSteps(1), 0) {
				refuses(t, f, steps, at, api.ErrNil)
			}
		}
		if f.Len() != 0 {
			t.Error("a table that no call made has rows")
		}
	}
}

// TestWrongSteps: P15.2, no steps, or one that is not right, wherever it stands, are ErrSteps, ahead of what at is.
func TestWrongSteps(t *testing.T) {
	f := rowsOf(t, "p", "q", "p & q", "p | q")
	good := proved(seq(0, 0), api.RuleId, 0)
	lists := [][]api.Step{
		nil,
		{},
		{{}},
		{good, {}},
		{{}, good},
		{good, proved(seq(3, 0), api.RuleOrR2, 3, 0)},       // of another premise
		{good, proved(seq(3, 0), api.RuleOrR1, 3, 1)},       // its own kid
		{good, proved(seq(3, 0), api.RuleOrR1, 3, -1)},      // no step
		{good, proved(seq(3, 0), api.RuleOrR1, 3)},          // too few
		{good, proved(seq(3, 0), api.RuleOrR1, 3, 0, 0)},    // too many
		{good, proved(seq(0, 0), api.RuleId, 1)},            // does not fit
		{good, proved(seq(0, 0), api.RuleStuck, 0)},         // proves nothing
		{good, proved(seq(0, 0), 0, 0)},                     // no rule
		{good, proved(seq(4, 4), api.RuleId, 4)},            // no formula
		{good, proved(seq(0, 0, 1023), api.RuleId, 0)},      // no formula
		{good, refuted(seq(3, 0), api.RuleOrR1, 3, 0)},      // refutes nothing
		{stuck(seq(0)), proved(seq(3), api.RuleOrR1, 3, 0)}, // a kid that is refuted
		{good, good, good, good, proved(seq(1, 0), api.RuleId, 1)},
	}
	for _, steps := range lists {
		for _, at := range append(noSteps(len(steps)), 0, 1) {
			refuses(t, f, steps, at, api.ErrSteps)
		}
	}
	gives(t, f, []api.Step{good}, 0, v("h0"))
}

// TestNoRows: P15.2, a table without rows has no steps.
func TestNoRows(t *testing.T) {
	f := formula.New()
	refuses(t, f, nil, 0, api.ErrSteps)
	refuses(t, f, []api.Step{proved(seq(0, 0), api.RuleId, 0)}, 0, api.ErrSteps)
	refuses(t, f, []api.Step{stuck(seq(0))}, 0, api.ErrSteps)
}

// TestNoStep: P15.2, a number that is no step's, or one's that is refuted, is ErrArg.
func TestNoStep(t *testing.T) {
	f := rowsOf(t, "p", "q", "p | q")
	right := [][]api.Step{
		{proved(seq(0, 0), api.RuleId, 0)},
		{proved(seq(0, 0), api.RuleId, 0), proved(seq(2, 0), api.RuleOrR1, 2, 0)},
		{stuck(seq(0))},
		{stuck(seq(0)), stuck(seq(1)), stuck(seq(2), 0, 1), proved(seq(0, 0), api.RuleId, 0)},
	}
	for _, steps := range right {
		for _, at := range noSteps(len(steps)) {
			refuses(t, f, steps, at, api.ErrArg)
		}
		for at, step := range steps {
			if !step.Proved {
				refuses(t, f, steps, at, api.ErrArg)
			}
		}
	}
	// What lies behind a list's end is nobody's.
	l := []api.Step{proved(seq(0, 0), api.RuleId, 0), proved(seq(0, 0), api.RuleId, 0)}
	gives(t, f, l, 1, v("h0"))
	refuses(t, f, l[:1], 1, api.ErrArg)
}

// TestRefutedByEveryRule: P15.2, steps that are refuted by rules that also prove are ErrArg.
func TestRefutedByEveryRule(t *testing.T) {
	uses := map[api.Rule]int{}
	for _, text := range []string{"p & q |- r", "p, p -> q |- r", "false -> p |- r", "p & q -> r |- r", "p | q -> r |- r", "p -> q", "p & q", "p | q |- p", "p | ~p", "(p -> p) -> q |- r"} {
		f := formula.New()
		s := readSeq(t, f, text)
		found, e := search.Run(f, s, api.MaxVisits)
		if e != api.OK || found.Proved {
			t.Fatal(text, found, e)
		}
		for at, step := range found.Steps {
			if !step.Proved {
				refuses(t, f, found.Steps, at, api.ErrArg)
				uses[step.Rule]++
			}
		}
	}
	if len(uses) != 10 {
		t.Errorf("refuted by %v", uses)
	}
}

// TestCutTable: P15.2, steps of formulas that were rows and are no more are ErrSteps; so are those of a premise whose formula is none.
func TestCutTable(t *testing.T) {
	f := formula.New()
	s := readSeq(t, f, "p & q -> r, p, q |- r")
	rows := f.Len()
	found, _ := search.Run(f, s, api.MaxVisits)
	last := len(found.Steps) - 1
	if !found.Proved || f.Len() != rows+2 {
		t.Fatal(found, f.Len())
	}
	want, e := translate.Term(f, found.Steps, last)
	if e != api.OK {
		t.Fatal(e)
	}
	gives(t, f, found.Steps, last, want)
	all := f.Rows()
	f.Cut(rows + 1)
	refuses(t, f, found.Steps, last, api.ErrSteps)
	refuses(t, f, found.Steps, -1, api.ErrSteps)
	f.Cut(rows)
	refuses(t, f, found.Steps, last, api.ErrSteps)
	gives(t, made(t, all...), found.Steps, last, want)
}

// TestFullTable: P15.2, a table that is full, or has more rows than the steps ask for, is asked as any other one, and gets none.
func TestFullTable(t *testing.T) {
	for _, text := range knownTexts() {
		f := formula.New()
		s := readSeq(t, f, text)
		found, _ := search.Run(f, s, api.MaxVisits)
		last := len(found.Steps) - 1
		want, e := translate.Term(f, found.Steps, last)
		if e != api.OK {
			t.Fatal(text, e)
		}
		for _, many := range []int{f.Len() + 1, api.MaxForms - 1, api.MaxForms} {
			gives(t, filled(t, f.Rows(), many), found.Steps, last, want)
		}
	}
}

// TestLateRows: P15.3, names are the numbers of the table's rows, also of the last ones.
func TestLateRows(t *testing.T) {
	few := rowsOf(t, "p", "q", "r").Rows()
	f := filled(t, few, api.MaxForms-5)
	both, _ := f.And(0, 1) // 1019
	m, _ := f.Imp(both, 2) // 1020
	s := seq(2, 0, 1, m)   // p, q, p & q -> r |- r
	found, e := search.Run(f, s, api.MaxVisits)
	if e != api.OK || !found.Proved || f.Len() != api.MaxForms-1 {
		t.Fatal(e, found.Proved, f.Len())
	}
	last := len(found.Steps) - 1
	gives(t, f, found.Steps, last, readTerm(t, f, "let h1022 = (fun h0 => fun h1 => h1020 (h0, h1) : p -> q -> r) in let h1021 = h1022 h0 in let h2 = h1021 h1 in h2"))
}

// own asks that no two lists of a term share memory, also behind their ends.
func own(t *testing.T, x api.Term, seen map[*api.Term]int) {
	t.Helper()
	all := x.Sub[:cap(x.Sub)]
	for i := range all {
		if seen[&all[i]]++; seen[&all[i]] > 1 {
			t.Fatalf("a list of %s is shared", show(x))
		}
	}
	for _, part := range x.Sub {
		own(t, part, seen)
	}
}

// TestOwnMemory: R3, terms are the caller's own: no list stands in two places of one, or in two answers; what is done to one is not seen in the next.
func TestOwnMemory(t *testing.T) {
	chance := newChance(4)
	for range 400 {
		f, steps := someSteps(t, chance)
		for at, step := range steps {
			if !step.Proved {
				continue
			}
			seen := map[*api.Term]int{}
			one, e := translate.Term(f, steps, at)
			two, same := translate.Term(f, steps, at)
			if e != same || !alike(one, two) {
				t.Fatalf("%s, error %d, and then %s, error %d", show(one), e, show(two), same)
			}
			own(t, one, seen)
			own(t, two, seen)
		}
	}
	f := rowsOf(t, "p", "p & p", "(p & p) & (p & p)")
	steps := []api.Step{proved(seq(0, 0), api.RuleId, 0), proved(seq(1, 0), api.RuleAndR, 1, 0, 0), proved(seq(2, 0), api.RuleAndR, 2, 1, 1)}
	x, _ := translate.Term(f, steps, 2)
	x.Sub[0].Sub[0] = v("x")
	if !alike(x, of(api.TPair, of(api.TPair, v("x"), v("h0")), of(api.TPair, v("h0"), v("h0")))) {
		t.Errorf("%s", show(x))
	}
	gives(t, f, steps, 2, of(api.TPair, of(api.TPair, v("h0"), v("h0")), of(api.TPair, v("h0"), v("h0"))))
}

// TestNothingKept: R4, what other tables and steps were asked meanwhile turns nothing.
func TestNothingKept(t *testing.T) {
	chance := newChance(5)
	for range 200 {
		f, steps := someSteps(t, chance)
		if len(steps) == 0 {
			continue
		}
		at := chance.IntN(len(steps))
		one, e := translate.Term(f, steps, at)
		g, others := someSteps(t, chance)
		translate.Term(g, others, len(others)-1)
		translate.Size(f, others, 0)
		translate.Size(g, steps, at)
		if two, same := translate.Term(f.Copy(), copied(steps), at); e != same || !alike(one, two) {
			t.Fatalf("%s, error %d, and then %s, error %d", show(one), e, show(two), same)
		}
	}
}
