package decide_test

import (
	"slices"
	"testing"

	"dictum/api"
	"dictum/formula"
)

// TestRefusedTable: R1, ErrNil comes first of all, whatever the numbers are.
func TestRefusedTable(t *testing.T) {
	for _, x := range noMade() {
		for _, id := range append(noForms(0), 1, 2) {
			refusesForm(t, x, id, api.ErrNil)
			refusesEntails(t, x, nil, id, api.ErrNil)
			for _, other := range append(noForms(0), 1, 2) {
				refusesEntails(t, x, to(other), id, api.ErrNil)
				refusesEntails(t, x, to(other, 0, other), id, api.ErrNil)
				refusesEqual(t, x, id, other, api.ErrNil)
			}
		}
		refusesEntails(t, x, make([]int, 5000), 0, api.ErrNil)
	}
}

// TestRefusedForm: ErrForm of a number that is no row's, in whichever place it stands.
func TestRefusedForm(t *testing.T) {
	x, _ := readAll(t, "p | ~p", "(p & q -> r) -> p -> r")
	full := filled(t, x.Rows(), api.MaxForms)
	cut := full.Copy()
	cut.Cut(x.Len())
	for _, x := range []*formula.Table{formula.New(), x, cut, full} {
		for _, id := range noForms(x.Len()) {
			refusesForm(t, x, id, api.ErrForm)
			refusesEntails(t, x, nil, id, api.ErrForm)
			refusesEntails(t, x, to(id), id, api.ErrForm)
			refusesEqual(t, x, id, id, api.ErrForm)
			if x.Len() == 0 {
				continue
			}
			refusesEntails(t, x, to(0, 1, 0), id, api.ErrForm)
			for place := range 3 {
				left := to(0, 1, 0)
				left[place] = id
				refusesEntails(t, x, left, 0, api.ErrForm)
			}
			refusesEqual(t, x, id, 0, api.ErrForm)
			refusesEqual(t, x, 0, id, api.ErrForm)
		}
	}
}

// TestRefusedFormFirst: P21.3 and P21.4, ErrForm comes ahead of ErrBudget: of a list that no table has room for, and of formulas that no search decides.
func TestRefusedFormFirst(t *testing.T) {
	x, ids := readAll(t, hard(), "q")
	for _, id := range noForms(x.Len()) {
		for _, place := range to(0, 1, 700, 2999, 3000) {
			left := slices.Insert(make([]int, 3000), place, id)
			refusesEntails(t, x, left, ids[1], api.ErrForm)
		}
		refusesEntails(t, x, make([]int, 3000), id, api.ErrForm)
		refusesEntails(t, x, to(ids[1], id), ids[0], api.ErrForm)
		refusesEqual(t, x, ids[0], id, api.ErrForm)
		refusesEqual(t, x, id, ids[0], api.ErrForm)
	}
	refusesEntails(t, x, make([]int, 3000), ids[1], api.ErrBudget)
	refusesEntails(t, x, to(ids[1]), ids[0], api.ErrBudget)
	refusesForm(t, x, ids[0], api.ErrBudget)
}
