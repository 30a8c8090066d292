package classical_test

import (
	"testing"

	"dictum/api"
	"dictum/formula"
)

// TestRefusedTable: R1, ErrNil comes first of all, whatever the numbers are; the table stays none.
func TestRefusedTable(t *testing.T) {
	for _, x := range noMade() {
		for _, id := range append(noForms(0), 1, 2, 1023) {
			refuses(t, x, id, api.ErrNil)
			for _, other := range append(noForms(0), 1, 2, 1023) {
				refusesEqual(t, x, id, other, api.ErrNil)
			}
		}
		if _, e := x.Bot(); e != api.ErrNil {
			t.Errorf("it has become a table: error %d", e)
		}
	}
}

// TestRefusedForm: ErrForm of a number that is no row's, of Equal in both places; also of a table that is full, or empty, or cut.
func TestRefusedForm(t *testing.T) {
	x, _ := readAll(t, "p | ~p", "(p & q -> r) -> p -> r")
	full := filled(t, x.Rows(), api.MaxForms)
	cut := full.Copy()
	cut.Cut(x.Len())
	for _, x := range []*formula.Table{formula.New(), x, cut, full} {
		for _, id := range noForms(x.Len()) {
			refuses(t, x, id, api.ErrForm)
			refusesEqual(t, x, id, id, api.ErrForm)
			if x.Len() > 0 {
				refusesEqual(t, x, id, 0, api.ErrForm)
				refusesEqual(t, x, id, x.Len()-1, api.ErrForm)
			}
		}
	}
}

// TestRefusedFormFirst: P22.1, ErrForm comes ahead of ErrAtoms, of Equal in either place.
func TestRefusedFormFirst(t *testing.T) {
	x, ids := readAll(t, excluded(13))
	for _, id := range noForms(x.Len()) {
		refusesEqual(t, x, ids[0], id, api.ErrForm)
	}
	refusesEqual(t, x, ids[0], 0, api.ErrAtoms)
	refusesTable(t, x, ids[0], api.ErrAtoms)
}

// TestRefusedAtomsFirst: P22.2, ErrAtoms comes ahead of ErrBudget: where the double negation has no room, and where no search would decide it.
func TestRefusedAtomsFirst(t *testing.T) {
	x, ids := readAll(t, excluded(13), excluded(12))
	for _, room := range to(0, 1, 2, 3, 100) {
		full := filled(t, x.Rows(), api.MaxForms-room)
		refusesTable(t, full, ids[0], api.ErrAtoms)
		refusesDecide(t, full, ids[1], api.ErrBudget)
	}
}
