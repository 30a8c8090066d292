package deriv_test

import (
	"math"
	"slices"
	"testing"

	"dictum/api"
	"dictum/formula"
)

// TestProved: P10.1, one proved step of each rule, on steps that are right.
func TestProved(t *testing.T) {
	for _, c := range []struct {
		text string // the last sequent's
		rule api.Rule
		main string
		more string // what must be a row besides
		kids []string
	}{
		{"false |- p", api.RuleBot, "false", "", nil},
		{"p & q |- p & q", api.RuleId, "p & q", "", nil},
		{"p & q |- p", api.RuleAndL, "p & q", "", []string{"p, q |- p"}},
		{"p, p -> q |- q", api.RuleImpAtom, "p -> q", "", []string{"p, q |- q"}},
		{"p, false -> q |- p", api.RuleImpBot, "false -> q", "", []string{"p |- p"}},
		{"p, p & q -> r |- p", api.RuleImpAnd, "p & q -> r", "p -> q -> r", []string{"p, p -> q -> r |- p"}},
		{"p, p | q -> r |- p", api.RuleImpOr, "p | q -> r", "(p -> r) & (q -> r)", []string{"p, p -> r, q -> r |- p"}},
		{"q |- p -> q", api.RuleImpR, "p -> q", "", []string{"q, p |- q"}},
		{"p, q |- p & q", api.RuleAndR, "p & q", "", []string{"p, q |- p", "p, q |- q"}},
		{"r, p | q |- r", api.RuleOrL, "p | q", "", []string{"r, p |- r", "r, q |- r"}},
		{"p |- p | q", api.RuleOrR1, "p | q", "", []string{"p |- p"}},
		{"q |- p | q", api.RuleOrR2, "p | q", "", []string{"q |- q"}},
		{"p -> q, (p -> q) -> r |- r", api.RuleImpImp, "(p -> q) -> r", "q -> r", []string{"p -> q, q -> r |- p -> q", "p -> q, r |- r"}},
	} {
		x := formula.New()
		s := readSeq(t, x, c.text)
		if c.more != "" {
			read(t, x, c.more)
		}
		var steps []api.Step
		var kids []int
		for i, kid := range c.kids {
			q := readSeq(t, x, kid)
			steps, kids = append(steps, proved(q, api.RuleId, q.Goal)), append(kids, i)
		}
		last := proved(s, c.rule, read(t, x, c.main), kids...)
		right(t, x, append(steps, last)...)
		holdLast(t, x, steps, last)
	}
}

// holdLast asks that a step is wrong with anything else in it.
func holdLast(t *testing.T, x *formula.Table, steps []api.Step, last api.Step) {
	t.Helper()
	with := func(change func(*api.Step)) {
		t.Helper()
		l := append(copied(steps), copied([]api.Step{last})...)
		change(&l[len(l)-1])
		wrong(t, x, l...)
	}
	with(func(s *api.Step) { s.Proved = !s.Proved })
	for k := api.RuleBot - 2; k <= api.RuleStuck+2; k++ {
		if k != last.Rule {
			with(func(s *api.Step) { s.Rule = k })
		}
	}
	for _, k := range noRules() {
		with(func(s *api.Step) { s.Rule = k })
	}
	for main := -1; main <= x.Len(); main++ {
		if main != last.Main {
			with(func(s *api.Step) { s.Main = main })
		}
	}
	for _, main := range noForms(x.Len()) {
		with(func(s *api.Step) { s.Main = main })
		with(func(s *api.Step) { s.Seq.Goal = main })
	}
	for id := x.Len(); id < api.MaxForms; id += 1 + id/3 {
		with(func(s *api.Step) { s.Seq.Left[id/64] |= 1 << (id % 64) })
	}
	for _, kid := range []int{-1, len(steps), len(steps) + 1, math.MaxInt, math.MinInt} {
		with(func(s *api.Step) { s.Kids = append(s.Kids, kid) })
		for i := range last.Kids {
			with(func(s *api.Step) { s.Kids[i] = kid })
		}
	}
	for i := range steps {
		with(func(s *api.Step) { s.Kids = append(s.Kids, i) })
		with(func(s *api.Step) { s.Kids = append([]int{i}, s.Kids...) })
	}
	if len(last.Kids) > 0 {
		with(func(s *api.Step) { s.Kids = nil })
		with(func(s *api.Step) { s.Kids = s.Kids[1:] })
		with(func(s *api.Step) { s.Kids = s.Kids[:len(s.Kids)-1] })
	}
	if len(last.Kids) > 1 {
		with(func(s *api.Step) { slices.Reverse(s.Kids) })
		with(func(s *api.Step) { s.Kids[1] = s.Kids[0] })
		with(func(s *api.Step) { s.Kids[0] = s.Kids[1] })
	}
}

// TestRefuted: P10.1, one refuted step of each rule that may refute by one kid, on a step that is right.
func TestRefuted(t *testing.T) {
	for _, c := range []struct {
		text string
		rule api.Rule
		main string
		more string
		kid  string
	}{
		{"p & q |- r", api.RuleAndL, "p & q", "", "p, q |- r"},
		{"p, p -> q |- r", api.RuleImpAtom, "p -> q", "", "p, q |- r"},
		{"p, false -> q |- r", api.RuleImpBot, "false -> q", "", "p |- r"},
		{"p & q -> r |- s", api.RuleImpAnd, "p & q -> r", "p -> q -> r", "p -> q -> r |- s"},
		{"p | q -> r |- s", api.RuleImpOr, "p | q -> r", "(p -> r) & (q -> r)", "p -> r, q -> r |- s"},
		{"|- p -> q", api.RuleImpR, "p -> q", "", "p |- q"},
		{"p |- p & q", api.RuleAndR, "p & q", "", "p |- q"},
		{"q |- p & q", api.RuleAndR, "p & q", "", "q |- p"},
		{"r, p | q |- p", api.RuleOrL, "p | q", "", "r, q |- p"},
		{"r, p | q |- q", api.RuleOrL, "p | q", "", "r, p |- q"},
		{"(p -> q) -> r |- s", api.RuleImpImp, "(p -> q) -> r", "q -> r", "r |- s"},
		{"(p -> q) -> r |- s", api.RuleImpImp, "(p -> q) -> r", "", "r |- s"}, // the second premise does not need q -> r
	} {
		x := formula.New()
		s := readSeq(t, x, c.text)
		if c.more != "" {
			read(t, x, c.more)
		}
		steps := []api.Step{stuck(readSeq(t, x, c.kid))}
		last := refuted(s, c.rule, read(t, x, c.main), 0)
		right(t, x, append(steps, last)...)
		holdLast(t, x, steps, last)
	}
}

// TestRefutedTwo: P10.1, a refuted step has one kid, also where both premises are refuted; either will do, but of RuleImpImp the second alone.
func TestRefutedTwo(t *testing.T) {
	x := formula.New()
	and, or, imp := readSeq(t, x, "|- p & q"), readSeq(t, x, "p | q |- r"), readSeq(t, x, "(p -> q) -> r |- s")
	qr := read(t, x, "q -> r")
	p, q := stuck(seq(read(t, x, "p"))), stuck(seq(read(t, x, "q")))
	main := and.Goal
	right(t, x, p, q, refuted(and, api.RuleAndR, main, 0))
	right(t, x, p, q, refuted(and, api.RuleAndR, main, 1))
	wrong(t, x, p, q, refuted(and, api.RuleAndR, main, 0, 1))
	wrong(t, x, p, q, refuted(and, api.RuleAndR, main))

	main = leftOf(or)[0]
	one, two := stuck(readSeq(t, x, "p |- r")), stuck(readSeq(t, x, "q |- r"))
	right(t, x, one, two, refuted(or, api.RuleOrL, main, 0))
	right(t, x, one, two, refuted(or, api.RuleOrL, main, 1))
	wrong(t, x, one, two, refuted(or, api.RuleOrL, main, 0, 1))

	main = leftOf(imp)[0]
	inner := stuck(readSeq(t, x, "q -> r, p |- q"))
	first := refuted(readSeq(t, x, "q -> r |- p -> q"), api.RuleImpR, read(t, x, "p -> q"), 0)
	second := stuck(readSeq(t, x, "r |- s"))
	right(t, x, inner, first, second, refuted(imp, api.RuleImpImp, main, 2))
	wrong(t, x, inner, first, second, refuted(imp, api.RuleImpImp, main, 1))
	wrong(t, x, inner, first, second, refuted(imp, api.RuleImpImp, main, 1, 2))
	wrong(t, x, inner, first, second, proved(imp, api.RuleImpImp, main, 1, 2))
	right(t, x, inner, first, second, stuck(imp, 1))
	wrong(t, x, inner, first, second, stuck(imp, 2))
	wrong(t, x, inner, first, second, stuck(imp, 1, 2))
	if got, ok := x.Find(join(api.KImp, read(t, x, "q"), read(t, x, "r"))); got != qr || !ok {
		t.Error("q -> r is no row any more")
	}
}

// TestKidOtherwise: P10.1, a kid must be decided as its step is: proved kids of what is proved, refuted ones of what is refuted.
func TestKidOtherwise(t *testing.T) {
	x := formula.New()
	and := readSeq(t, x, "p |- p & q")
	p, q := proved(readSeq(t, x, "p |- p"), api.RuleId, 0), stuck(readSeq(t, x, "p |- q"))
	right(t, x, p, q)
	wrong(t, x, p, q, proved(and, api.RuleAndR, and.Goal, 0, 1))
	wrong(t, x, p, q, proved(and, api.RuleAndR, and.Goal, 0, 0))
	right(t, x, p, q, refuted(and, api.RuleAndR, and.Goal, 1))
	wrong(t, x, p, q, refuted(and, api.RuleAndR, and.Goal, 0))

	or := readSeq(t, x, "p |- p | q")
	wrong(t, x, p, q, stuck(or, 0, 1))
	wrong(t, x, p, q, proved(or, api.RuleOrR2, or.Goal, 1))
	wrong(t, x, p, q, refuted(or, api.RuleOrR2, or.Goal, 1))
	wrong(t, x, p, q, refuted(or, api.RuleOrR1, or.Goal, 0))
	right(t, x, p, q, proved(or, api.RuleOrR1, or.Goal, 0))

	imp := readSeq(t, x, "p, (q -> p) -> p |- p")
	main := leftOf(imp)[1]
	right(t, x, p, proved(imp, api.RuleId, 0))
	read(t, x, "p -> p")
	wrong(t, x, p, refuted(imp, api.RuleImpImp, main, 0))
}

// TestStuck: P10.1, an open sequent with the choices that it has, and Main 0.
func TestStuck(t *testing.T) {
	x := formula.New()
	or := readSeq(t, x, "p -> q, (p -> q) -> r, (q -> p) -> r |- p | q")
	read(t, x, "q -> r")
	read(t, x, "p -> r")
	l := leftOf(or)
	steps := find(t, x, or, nil, 100)
	if len(steps) < 5 || len(steps[len(steps)-1].Kids) == 0 {
		t.Fatal(showAll(steps))
	}
	right(t, x, steps...)

	open := readSeq(t, x, "(q -> p) -> r, (p -> q) -> r |- p | q")
	steps = find(t, x, open, nil, 100)
	last := steps[len(steps)-1]
	if last.Rule != api.RuleStuck || len(last.Kids) != 4 || len(l) != 3 {
		t.Fatal(showAll(steps))
	}
	right(t, x, steps...)
	holdLast(t, x, steps[:len(steps)-1], last)
	for i := range last.Kids {
		for j := range i {
			turned := copied(steps)
			kids := turned[len(turned)-1].Kids
			kids[i], kids[j] = kids[j], kids[i]
			wrong(t, x, turned...)
		}
	}
}

// TestStuckNotOpen: P10.1, a sequent that is not open has no choices, and is not stuck without kids.
func TestStuckNotOpen(t *testing.T) {
	x := formula.New()
	for _, text := range []string{"false |- p", "p |- p", "p & q |- r", "p, p -> q |- r", "false -> p |- q", "p & q -> p |- r", "p | q -> r |- r", "|- p -> q", "|- p & q", "p | q |- r", "p | q |- p | q", "p & q |- p | q"} {
		wrong(t, x, stuck(readSeq(t, x, text)))
	}
	for _, text := range []string{"|- p", "p |- q", "p -> q |- q", "q -> q |- r", "|- false", "p, q |- r"} {
		right(t, x, stuck(readSeq(t, x, text)))
	}
	wrong(t, x, stuck(readSeq(t, x, "|- p | q")))
	wrong(t, x, stuck(readSeq(t, x, "(p -> q) -> r |- r")))
}

// TestStuckSame: P10.1, choices with the same first premise: a kid stands as often as it is one.
func TestStuckSame(t *testing.T) {
	x := formula.New()
	s := readSeq(t, x, "|- p | p")
	p := stuck(seq(0))
	right(t, x, p, stuck(s, 0, 0))
	wrong(t, x, p, stuck(s, 0))
	wrong(t, x, p, stuck(s, 0, 0, 0))
	right(t, x, p, p, stuck(s, 0, 1))
	right(t, x, p, p, stuck(s, 1, 0))
	right(t, x, p, p, stuck(s, 1, 1), stuck(s, 0, 1))
}

// TestStuckMain: P10.1, the Main of RuleStuck is 0, whatever else would be a formula.
func TestStuckMain(t *testing.T) {
	x := example(t)
	right(t, x, stuck(seq(1)))
	for _, main := range append(noForms(4), 1, 2, 3) {
		wrong(t, x, refuted(seq(1), api.RuleStuck, main))
		wrong(t, x, stuck(seq(0)), stuck(seq(1)), refuted(seq(3), api.RuleStuck, main, 0, 1))
	}
}

// TestEveryStep: P10.2, each step of the list must be right, also those on which the last one does not stand.
func TestEveryStep(t *testing.T) {
	x := example(t)
	good, bad := proved(seq(0, 0), api.RuleId, 0), proved(seq(1, 0), api.RuleId, 0)
	right(t, x, good, good, good)
	wrong(t, x, bad)
	wrong(t, x, bad, good)
	wrong(t, x, good, bad)
	wrong(t, x, good, bad, good)
	wrong(t, x, good, good, good, bad)
	wrong(t, x, good, proved(seq(3, 0), api.RuleOrR1, 3, 1), good)
	wrong(t, x, good, proved(seq(3, 0), api.RuleOrR1, 3, 2), good)
	right(t, x, good, proved(seq(3, 0), api.RuleOrR1, 3, 0), good)
}

// TestAnyOrder: P10.1 asks that a rule fits, not that it is the one that layer 9 would take first.
func TestAnyOrder(t *testing.T) {
	x := formula.New()
	s := readSeq(t, x, "p, p & q |- p | q")
	right(t, x, proved(readSeq(t, x, "p, p & q |- p"), api.RuleId, 0), proved(s, api.RuleOrR1, s.Goal, 0))
	imp := readSeq(t, x, "p, q -> q |- q -> q")
	right(t, x, proved(imp, api.RuleId, imp.Goal))
	right(t, x, proved(readSeq(t, x, "p, q -> q, q |- q"), api.RuleId, 1), proved(imp, api.RuleImpR, imp.Goal, 0))
	and := readSeq(t, x, "p & q |- p & q & r")
	steps := []api.Step{stuck(readSeq(t, x, "p, q |- r"))}
	r := readSeq(t, x, "p & q |- r")
	steps = append(steps, refuted(r, api.RuleAndL, leftOf(r)[0], 0), refuted(and, api.RuleAndR, and.Goal, 1))
	right(t, x, steps...)
}

// TestNoRow: P10.1, a premise with a formula that is no row yet is no step's sequent, and no row is made; with the row the same list is right.
func TestNoRow(t *testing.T) {
	for _, c := range []struct {
		text string
		rule api.Rule
		kid  string
	}{
		{"p & q -> r |- s", api.RuleImpAnd, "p -> q -> r |- s"},
		{"p | q -> r |- s", api.RuleImpOr, "p -> r, q -> r |- s"},
		{"p | p -> r |- s", api.RuleImpOr, "p -> r |- s"},
	} {
		x := formula.New()
		s := readSeq(t, x, c.text)
		rows := x.Len()
		kid := stuck(readSeq(t, x, c.kid))
		last := refuted(s, c.rule, leftOf(s)[0], 0)
		right(t, x, kid, last)
		many := x.Len()
		x.Cut(rows)
		wrong(t, x, kid, last)
		// With other rows of the numbers that the premise's formulas would get, the kid is right, and still not of the premise.
		x = filled(t, x.Rows(), many)
		right(t, x, kid)
		wrong(t, x, kid, last)
	}
}

// TestNoRowOfChoice: P10.1, a choice whose first premise has a formula that is no row: the sequent is not stuck by any kids.
func TestNoRowOfChoice(t *testing.T) {
	x := formula.New()
	s := readSeq(t, x, "(p -> q) -> r |- s")
	rows := x.Len()
	y := x.Copy()
	steps := find(t, y, s, nil, 20)
	right(t, y, steps...)
	if last := steps[len(steps)-1]; last.Rule != api.RuleStuck || y.Len() != rows+1 {
		t.Fatal(showAll(steps))
	}
	wrong(t, x, steps...)
	x.Atom("other")
	wrong(t, x, steps...)
	wrong(t, x, stuck(s))
	right(t, x, stuck(seq(read(t, x, "s"), read(t, x, "r"))), refuted(s, api.RuleImpImp, leftOf(s)[0], 0))
}

// TestNothingKept: the same call answers the same again, whatever was asked of other tables meanwhile.
func TestNothingKept(t *testing.T) {
	x, y := example(t), made(t, atom("p"))
	steps := []api.Step{stuck(seq(0)), stuck(seq(1)), stuck(seq(3), 0, 1)}
	for range 3 {
		right(t, x, steps...)
		wrong(t, y, steps...)
		right(t, y, steps[0])
		checks(t, nil, api.ErrNil, steps...)
	}
}
