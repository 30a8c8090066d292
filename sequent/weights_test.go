package sequent_test

import (
	"slices"
	"testing"

	"dictum/api"
	"dictum/sequent"
)

// weighs asks for a sequent's weights.
func weighs(t *testing.T, got []int, e api.Errno, want ...int) {
	t.Helper()
	if !slices.Equal(got, want) || e != api.OK {
		t.Errorf("%v, error %d, not %v", got, e, want)
	}
}

// TestWeights: P8.4, the goal among the left side's formulas, a goal that stands on the left, too, and no formula there.
func TestWeights(t *testing.T) {
	rows := []api.Node{atom("p"), atom("q"), join(api.KAnd, 0, 1), join(api.KOr, 2, 0), join(api.KImp, 3, 3), bot()}
	x := made(t, rows...)
	for _, c := range []struct {
		s    api.Seq
		want []int
	}{
		{seq(0), []int{1}},
		{seq(5), []int{1}},
		{seq(2), []int{4}},
		{seq(2, 2), []int{4, 4}},
		{seq(0, 0), []int{1, 1}},
		{seq(2, 0, 1), []int{4, 1, 1}},
		{seq(0, 0, 4), []int{13, 1, 1}},
		{seq(4, 0, 1, 2, 3, 4, 5), []int{13, 13, 6, 4, 1, 1, 1}},
		{seq(3, 0, 1, 2, 4, 5), []int{13, 6, 4, 1, 1, 1}},
	} {
		w, e := sequent.Weights(x, c.s)
		weighs(t, w, e, c.want...)
	}
	same(t, x, rows)
}

// TestWeightsEnd: P8.4, weights end at MaxCount, as layer 6's do.
func TestWeightsEnd(t *testing.T) {
	x := made(t, atom("p"))
	for i := range 60 {
		x.Or(i, i)
	}
	w, e := sequent.Weights(x, seq(60, 0, 3, 59))
	weighs(t, w, e, api.MaxCount, api.MaxCount, 15, 1)
}

// TestWeightsNew: R3, what is answered is the caller's own.
func TestWeightsNew(t *testing.T) {
	x := made(t, exampleRows()...)
	a, _ := sequent.Weights(x, seq(1, 0, 2))
	clear(a[:cap(a)])
	b, e := sequent.Weights(x, seq(1, 0, 2))
	weighs(t, b, e, 4, 1, 1)
}

// TestWeightsAgainstPlain: P8.4, tables and sequents by chance, against trees in which nothing is shared.
func TestWeightsAgainstPlain(t *testing.T) {
	chance := newChance(2)
	for range 2000 {
		rows := someRows(chance, 2+chance.IntN(20), 3+chance.IntN(12), 4)
		x := made(t, rows...)
		s := someSeq(chance, len(rows), 8)
		want := []int{weight(rows, s.Goal)}
		for _, id := range leftOf(s) {
			want = append(want, weight(rows, id))
		}
		slices.Sort(want)
		slices.Reverse(want)
		w, e := sequent.Weights(x, s)
		weighs(t, w, e, want...)
	}
}
