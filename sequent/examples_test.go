package sequent_test

import (
	"slices"
	"testing"

	"dictum/api"
	"dictum/formula"
	"dictum/sequent"
)

func exampleRows() []api.Node {
	return []api.Node{atom("p"), atom("q"), join(api.KAnd, 0, 1)}
}

// TestExampleTexts is the chapter's example 1.
func TestExampleTexts(t *testing.T) {
	x := formula.New()
	parses(t, x, "p, p & q |- q", seq(1, 0, 2), exampleRows()...)
	parses(t, x, "q", seq(1), exampleRows()...)
	prints(t, x, seq(1, 0, 2), "p, p & q |- q")
	prints(t, x, seq(1), "|- q")
}

// TestExampleFaults is the chapter's example 2.
func TestExampleFaults(t *testing.T) {
	x := made(t, exampleRows()...)
	refuses(t, x, "p, |- q", api.ErrParse, 3)
	refuses(t, x, "p, q", api.ErrParse, 4)
	refuses(t, x, "p |- q |- r", api.ErrParse, 7)
	refuses(t, x, "", api.ErrParse, 0)
}

// TestExampleWhole is the chapter's example 3.
func TestExampleWhole(t *testing.T) {
	x := made(t, exampleRows()...)
	s := seq(1, 0, 2)
	if w, e := sequent.Weights(x, s); !slices.Equal(w, []int{4, 1, 1}) || e != api.OK {
		t.Errorf("Weights: %v, error %d", w, e)
	}
	id, e := sequent.Whole(x, s)
	answers(t, "Whole", id, e, read(t, x, "(p & (p & q)) -> q"), api.OK)
	id, e = sequent.Curry(x, s)
	answers(t, "Curry", id, e, read(t, x, "p -> (p & q -> q)"), api.OK)
	same(t, x, append(exampleRows(), join(api.KAnd, 0, 2), join(api.KImp, 3, 1), join(api.KImp, 2, 1), join(api.KImp, 0, 5)))
}
