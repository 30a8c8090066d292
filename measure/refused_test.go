package measure_test

import (
	"math"
	"slices"
	"testing"

	"dictum/api"
	"dictum/formula"
	"dictum/measure"
)

// refuses holds every call with one formula's number against an error, beside which all is zero.
func refuses(t *testing.T, f *formula.Table, id int, want api.Errno) {
	t.Helper()
	for _, c := range counts() {
		if n, e := c.of(f, id); n != 0 || e != want {
			t.Errorf("%s(%d): %d, error %d, not %d", c.name, id, n, e, want)
		}
	}
	if l, e := measure.Atoms(f, id); len(l) != 0 || e != want {
		t.Errorf("Atoms(%d): %v, error %d, not %d", id, l, e, want)
	}
	if p, n, e := measure.Signs(f, id); len(p) != 0 || len(n) != 0 || e != want {
		t.Errorf("Signs(%d): %v, %v, error %d, not %d", id, p, n, e, want)
	}
	refusesWeights(t, f, []int{id}, want)
}

func refusesWeights(t *testing.T, f *formula.Table, ids []int, want api.Errno) {
	t.Helper()
	if l, e := measure.Weights(f, ids); len(l) != 0 || e != want {
		t.Errorf("Weights(%v): %v, error %d, not %d", ids, l, e, want)
	}
}

// refusesPair holds the calls with two numbers against an error.
func refusesPair(t *testing.T, f *formula.Table, part, id int, want api.Errno) {
	t.Helper()
	if p, n, e := measure.Occurs(f, part, id); p != 0 || n != 0 || e != want {
		t.Errorf("Occurs(%d, %d): %d, %d, error %d, not %d", part, id, p, n, e, want)
	}
	if measure.Within(f, part, id) {
		t.Errorf("Within(%d, %d): true", part, id)
	}
}

// TestUnmade: R1 and P6.1 to P6.4, of a table that no call made every call answers ErrNil and zeros, whatever the numbers are, and Within false; the table stays none.
func TestUnmade(t *testing.T) {
	var declared formula.Table
	for _, f := range []*formula.Table{nil, {}, new(formula.Table), &declared} {
		ids := append(noForms(6), 0, 1, 5)
		for _, id := range ids {
			refuses(t, f, id, api.ErrNil)
			for _, part := range ids {
				refusesPair(t, f, part, id, api.ErrNil)
			}
		}
		for _, l := range [][]int{nil, {}, {0, 0}, {-1, 0}, ids} {
			refusesWeights(t, f, l, api.ErrNil)
		}
		if _, e := f.Bot(); e != api.ErrNil {
			t.Errorf("it has become a table: error %d", e)
		}
	}
}

// TestNoForm: P6.1 to P6.4, numbers that no formula has.
func TestNoForm(t *testing.T) {
	cut := made(t, chapter())
	cut.Cut(3)
	for _, f := range []*formula.Table{formula.New(), made(t, chapter()), cut, made(t, full(api.KOr)), made(t, []api.Node{bot()})} {
		for _, id := range noForms(f.Len()) {
			refuses(t, f, id, api.ErrForm)
			for _, other := range noForms(f.Len()) {
				refusesPair(t, f, other, id, api.ErrForm)
			}
			for _, good := range []int{0, f.Len() / 2, f.Len() - 1} {
				if good >= 0 && good < f.Len() {
					refusesPair(t, f, good, id, api.ErrForm)
					refusesPair(t, f, id, good, api.ErrForm)
				}
			}
		}
	}
}

// TestWeightsNoForm: P6.2, one number of many is no formula's, in each place.
func TestWeightsNoForm(t *testing.T) {
	f := made(t, chapter())
	for _, id := range noForms(6) {
		for at := range 8 {
			ids := slices.Insert([]int{0, 5, 3, 3, 2, 1, 4}, at, id)
			refusesWeights(t, f, ids, api.ErrForm)
		}
	}
	refusesWeights(t, f, []int{math.MinInt, math.MaxInt}, api.ErrForm)
	refusesWeights(t, formula.New(), []int{0}, api.ErrForm)
	if l, e := measure.Weights(formula.New(), nil); len(l) != 0 || e != api.OK {
		t.Errorf("Weights of no formula, of a table without rows: %v, error %d", l, e)
	}
}

// TestCutIsGone: P6.1 to P6.4, what was cut off is no formula any more, and what stands there anew is counted as what it is.
func TestCutIsGone(t *testing.T) {
	f := made(t, chapter())
	for _, c := range counts() {
		c.of(f, 5)
	}
	f.Cut(2)
	refuses(t, f, 2, api.ErrForm)
	if id, e := f.Or(0, 1); id != 2 || e != api.OK {
		t.Fatalf("%d, error %d", id, e)
	}
	is(t, count{"Weight", measure.Weight}, f, 2, 3)
}
