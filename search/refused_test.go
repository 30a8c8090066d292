package search_test

import (
	"math"
	"slices"
	"testing"

	"dictum/api"
	"dictum/formula"
	"dictum/search"
)

// TestNoTable: P11.1, a table that no call made is ErrNil, ahead of all else that is wrong, and stays none.
func TestNoTable(t *testing.T) {
	for _, x := range []*formula.Table{nil, {}, new(formula.Table)} {
		for _, s := range []api.Seq{{}, seq(0, 0), seq(-1), seq(5, 1023), seq(math.MaxInt), seq(math.MinInt, 0)} {
			for _, budget := range append(noBudgets(), 1, 2, api.MaxVisits) {
				refuses(t, x, s, budget, api.ErrNil)
			}
		}
		if x.Len() != 0 {
			t.Error("a table that no call made has rows")
		}
		if _, e := x.Bot(); e != api.ErrNil {
			t.Errorf("a table that no call made takes a row: error %d", e)
		}
	}
}

// TestNoRows: P11.1, a table without rows is one, but no number is a row's.
func TestNoRows(t *testing.T) {
	for _, budget := range append(noBudgets(), 1, api.MaxVisits) {
		refuses(t, formula.New(), api.Seq{}, budget, api.ErrForm)
		refuses(t, formula.New(), seq(0, 0), budget, api.ErrForm)
	}
}

// TestNoFormula: P11.1, a number of the left side, or the goal, that is no row's is ErrForm, ahead of what the budget is, and also where a rule fits with the rest.
func TestNoFormula(t *testing.T) {
	for _, many := range []int{6, 63, 64, 65, 127, 128, 1000, 1023, 1024} {
		x := filled(t, example(t).Rows(), many)
		for _, budget := range []int{1, 9, api.MaxVisits, 0, -1, api.MaxVisits + 1} {
			for _, goal := range noForms(many) {
				refuses(t, x, seq(goal), budget, api.ErrForm)
				refuses(t, x, seq(goal, 2, 3), budget, api.ErrForm)
			}
			for left := many; left < api.MaxForms; left += 1 + left/5 {
				refuses(t, x, seq(0, left), budget, api.ErrForm)
				refuses(t, x, seq(0, 0, left), budget, api.ErrForm)
				refuses(t, x, seq(5, 2, left), budget, api.ErrForm)
			}
			if many < api.MaxForms {
				refuses(t, x, seq(0, api.MaxForms-1), budget, api.ErrForm)
			}
		}
	}
}

// TestLastFormula: P11.1, the last row's number is a formula's, on both sides.
func TestLastFormula(t *testing.T) {
	for _, many := range []int{7, 63, 64, 65, 128, 1023, 1024} {
		x := filled(t, example(t).Rows(), many)
		last := many - 1
		finds(t, x, seq(last, last), found(proved(seq(last, last), api.RuleId, last)))
		finds(t, x, seq(last, 0), found(stuck(seq(last, 0))))
		finds(t, x, seq(3, last), found(stuck(seq(0, last)), stuck(seq(1, last)), stuck(seq(3, last), 0, 1)))
	}
}

// TestNoBudget: P11.1, a budget that is not from 1 to MaxVisits is ErrArg, ahead of what the search would meet.
func TestNoBudget(t *testing.T) {
	x := filled(t, example(t).Rows(), api.MaxForms)
	full := formula.New()
	main := read(t, full, "(p & q) -> r")
	full = filled(t, full.Rows(), api.MaxForms)
	for _, budget := range noBudgets() {
		refuses(t, x, seq(0, 0), budget, api.ErrArg)
		refuses(t, x, seq(5), budget, api.ErrArg)
		refuses(t, full, seq(0, main), budget, api.ErrArg)
	}
}

// TestRefusedChangesNothing: P11.1, behind a refusal the same table answers as if nothing had been.
func TestRefusedChangesNothing(t *testing.T) {
	x := formula.New()
	s := readSeq(t, x, "(p & q) -> r, ((p -> r) -> q) -> r |- r | q")
	want, wantE := search.Run(x.Copy(), s, api.MaxVisits)
	for budget := 1; budget < want.Visits; budget++ {
		refuses(t, x, s, budget, api.ErrBudget)
	}
	refuses(t, x, s, 0, api.ErrArg)
	refuses(t, x, seq(x.Len()), 1, api.ErrForm)
	if got, e := search.Run(x, s, want.Visits); !alike(got, want) || e != wantE || e != api.OK {
		t.Errorf("%s, error %d, not %s", show(got), e, show(want))
	}
}

// TestNothingKept: the same call answers the same again, whatever was asked meanwhile and whatever was done to the answer; and what the search has put into the table changes no later answer.
func TestNothingKept(t *testing.T) {
	chance := newChance(3)
	for range 200 {
		x := made(t, someRows(chance, 14, 14, 3)...)
		y := made(t, someRows(chance, 14, 14, 3)...)
		s := someSeq(chance, 14, 5)
		got, e := search.Run(x, s, 200)
		if e != api.OK {
			continue
		}
		rows, kept := x.Rows(), copied(got)
		for i := range got.Steps {
			for k := range got.Steps[i].Kids {
				got.Steps[i].Kids[k] = -1
			}
			got.Steps[i] = api.Step{Main: -1}
		}
		search.Run(y, s, 100)
		search.Run(x.Copy(), someSeq(chance, 14, 5), 100)
		again, e := search.Run(x, s, 200)
		if !alike(again, kept) || e != api.OK {
			t.Fatalf("%s, error %d; and first %s", show(again), e, show(kept))
		}
		same(t, x, rows)
	}
}

// TestOwnLists: no two lists of an answer share memory, also behind their ends.
func TestOwnLists(t *testing.T) {
	chance := newChance(4)
	for range 100 {
		x := made(t, someRows(chance, 14, 14, 3)...)
		got, e := search.Run(x, someSeq(chance, 14, 5), 200)
		if e != api.OK {
			continue
		}
		kept := copied(got)
		for _, step := range got.Steps {
			room := step.Kids[len(step.Kids):cap(step.Kids)]
			for i := range room {
				room[i] = -7
			}
		}
		if !alike(got, kept) {
			t.Fatalf("%s, and first %s", show(got), show(kept))
		}
		if room := got.Steps[len(got.Steps):cap(got.Steps)]; slices.ContainsFunc(room, func(step api.Step) bool { return step.Rule != 0 }) {
			t.Fatalf("behind the end of %s there is more", show(got))
		}
	}
}
