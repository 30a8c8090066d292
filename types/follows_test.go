package types_test

import (
	"slices"
	"testing"

	"dictum/api"
	"dictum/bits"
	"dictum/formula"
	"dictum/search"
	"dictum/types"
)

// TestFollowsAlone: P13.4, what is told is what alone a term is checked against.
func TestFollowsAlone(t *testing.T) {
	chance := newChance(4)
	for i := range 6000 {
		c := someProof(chance, i%2 == 0)
		f := made(t, c.rows...)
		form, e := types.Infer(f, c.hyps, c.x)
		if i%2 == 0 && (form != c.form || e != api.OK) {
			t.Fatalf("%v: Infer(%v, %s): %d, error %d, not %d", c.rows, c.hyps, show(c.x), form, e, c.form)
		}
		for id := range f.Len() {
			if got := types.Check(f, c.hyps, c.x, id); e == api.OK && (got == api.OK) != (id == form) {
				t.Fatalf("%v: %s under %v is told to be %d, but checked against %d: error %d", c.rows, show(c.x), c.hyps, form, id, got)
			}
		}
	}
}

// sameUnder asks that hypotheses more turn no answer.
func sameUnder(t *testing.T, f *formula.Table, hyps, more []api.Hyp, x api.Term, id int) {
	t.Helper()
	a, e := types.Infer(f, hyps, x)
	if b, g := types.Infer(f, more, x); e != api.ErrName && (a != b || e != g) {
		t.Fatalf("%s under %v: told %d, error %d; under %v: %d, error %d", show(x), hyps, a, e, more, b, g)
	}
	way, e := types.Where(f, hyps, x, id)
	if other, g := types.Where(f, more, x, id); e != api.ErrName && (!slices.Equal(way, other) || e != g) {
		t.Fatalf("%s under %v: %v, error %d; under %v: %v, error %d", show(x), hyps, way, e, more, other, g)
	}
}

// TestFollowsMore: P13.4, a hypothesis more, ahead of the others, turns nothing, if no name was missing.
func TestFollowsMore(t *testing.T) {
	chance := newChance(5)
	for range 6000 {
		c := someProof(chance, false)
		f := made(t, c.rows...)
		for _, name := range []string{"x", "y", "z", "u", "w", ""} {
			more := append([]api.Hyp{hyp(name, chance.IntN(f.Len()))}, c.hyps...)
			sameUnder(t, f, c.hyps, more, c.x, c.form)
			sameUnder(t, f, c.hyps, more, turned(chance, c.x, f.Len()+1), c.form)
		}
	}
}

// TestFollowsMoreGivesNames: a missing name, and that alone, is what a hypothesis more ahead of the others may give.
func TestFollowsMoreGivesNames(t *testing.T) {
	f := ruleTable(t)
	untold(t, f, given(), fst(v("w")), api.ErrName)
	tells(t, f, append([]api.Hyp{hyp("w", rowAnd)}, given()...), fst(v("w")), rowP)
	tells(t, f, append([]api.Hyp{hyp("and", rowPairs)}, given()...), fst(v("and")), rowP)
	tells(t, f, append(given(), hyp("and", rowPairs)), fst(v("and")), rowAnd)
}

// TestFollowsProved: P13.4, what is checked under hypotheses is proved with their formulas on the left side.
func TestFollowsProved(t *testing.T) {
	chance := newChance(6)
	ended := 0
	for range 5000 {
		c := someProof(chance, false)
		f := made(t, c.rows...)
		for id := range f.Len() {
			if types.Check(f, c.hyps, c.x, id) == api.OK {
				ended += provedUnder(t, f, c.hyps, id)
			}
		}
	}
	if ended < 5000 {
		t.Errorf("%d searches came to an end", ended)
	}
}

// provedUnder asks the search, and answers how many searches came to an end.
func provedUnder(t *testing.T, f *formula.Table, hyps []api.Hyp, id int) int {
	t.Helper()
	var left []int
	for _, h := range hyps {
		left = append(left, h.Form)
	}
	row, e := bits.Of(left...)
	if e != api.OK {
		t.Fatal(e)
	}
	found, e := search.Run(f.Copy(), api.Seq{Left: row, Goal: id}, api.MaxVisits)
	if e != api.OK {
		return 0
	}
	if !found.Proved {
		t.Fatalf("%v: %v |- %d is refuted", f.Rows(), left, id)
	}
	return 1
}
