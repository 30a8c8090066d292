package measure_test

import (
	"math"
	"slices"
	"testing"

	"dictum/api"
	"dictum/measure"
)

// TestWeights: P6.2, of no formula, of like ones, of different ones with like weights, and of formulas in every order: the greatest first.
func TestWeights(t *testing.T) {
	f := made(t, chapter())
	for _, c := range []struct{ ids, want []int }{
		{nil, nil},
		{[]int{}, nil},
		{[]int{0}, []int{1}},
		{[]int{0, 1, 3}, []int{1, 1, 1}},
		{[]int{2, 2, 2}, []int{4, 4, 4}},
		{[]int{5, 4, 2, 0}, []int{8, 6, 4, 1}},
		{[]int{0, 1, 2, 3, 4, 5}, []int{8, 6, 4, 1, 1, 1}},
		{[]int{4, 0, 4, 0, 5, 4}, []int{8, 6, 6, 6, 1, 1}},
	} {
		if l, e := measure.Weights(f, c.ids); !slices.Equal(l, c.want) || e != api.OK {
			t.Errorf("Weights(%v): %v, error %d, not %v", c.ids, l, e, c.want)
		}
	}
	orders([]int{0, 2, 3, 4, 4, 5}, func(ids []int) {
		if l, e := measure.Weights(f, ids); !slices.Equal(l, []int{8, 6, 6, 4, 1, 1}) || e != api.OK {
			t.Errorf("Weights(%v): %v, error %d", ids, l, e)
		}
	})
}

// orders hands out each order of a row.
func orders(row []int, each func([]int)) {
	var from func(int)
	from = func(i int) {
		if i == len(row) {
			each(slices.Clone(row))
		}
		for j := i; j < len(row); j++ {
			row[i], row[j] = row[j], row[i]
			from(i + 1)
			row[i], row[j] = row[j], row[i]
		}
	}
	from(0)
}

// TestWeightsMany: P6.2, more numbers than a table has rows.
func TestWeightsMany(t *testing.T) {
	f := made(t, chapter())
	ids := slices.Repeat([]int{0, 5, 2}, 5000)
	want := slices.Concat(slices.Repeat([]int{8}, 5000), slices.Repeat([]int{4}, 5000), slices.Repeat([]int{1}, 5000))
	if l, e := measure.Weights(f, ids); !slices.Equal(l, want) || e != api.OK {
		t.Errorf("%d weights, error %d", len(l), e)
	}
}

// rowsOf answers all rows of at most so many of the numbers, in every order.
func rowsOf(most int, numbers ...int) [][]int {
	all := [][]int{{}}
	for from, size := 0, 1; size <= most; size++ {
		end := len(all)
		for _, row := range all[from:end] {
			for _, n := range numbers {
				all = append(all, append(slices.Clone(row), n))
			}
		}
		from = end
	}
	return all
}

// holdsLess holds Less of each two rows against the chapter's words.
func holdsLess(t *testing.T, rows [][]int) {
	t.Helper()
	for _, a := range rows {
		for _, b := range rows {
			if got, want := measure.Less(a, b), below(a, b); got != want {
				t.Fatalf("Less(%v, %v): %v, not %v", a, b, got, want)
			}
		}
	}
}

// TestLess: P6.2, each two rows of up to four numbers, in every order, with like ones; and numbers below 0 and the least and the greatest ones.
func TestLess(t *testing.T) {
	holdsLess(t, rowsOf(4, 0, 1, 2))
	holdsLess(t, rowsOf(3, math.MinInt, math.MinInt+1, -1, 0, math.MaxInt))
	holdsLess(t, rowsOf(2, math.MinInt, -2, -1, 0, 1, 7, math.MaxInt-1, math.MaxInt))
}

// TestLessEdges: P6.2, empty rows, like rows in another order, and rows of which one holds the other.
func TestLessEdges(t *testing.T) {
	for _, c := range []struct {
		a, b []int
		is   bool
	}{
		{nil, nil, false},
		{nil, []int{}, false},
		{nil, []int{math.MinInt}, true},
		{[]int{math.MinInt}, nil, false},
		{[]int{1, 2, 3}, []int{3, 1, 2}, false},
		{[]int{1, 1, 2}, []int{1, 2, 2}, true},
		{[]int{1, 2, 2}, []int{2, 1, 1}, false},
		{[]int{7, 7}, []int{7, 7, 7}, true},
		{[]int{7, 7, 7}, []int{7, 7}, false},
		{[]int{5, -1}, []int{-1, 5, -9}, true},
		{[]int{-1, 5, -9}, []int{5, -1}, false},
		{slices.Repeat([]int{8}, 1000), []int{9}, true},
		{[]int{9}, slices.Repeat([]int{8}, 1000), false},
		{[]int{math.MaxInt - 1, math.MinInt}, []int{math.MaxInt}, true},
		{[]int{math.MinInt}, []int{math.MaxInt}, true},
		{[]int{math.MaxInt}, []int{math.MinInt}, false},
	} {
		if measure.Less(c.a, c.b) != c.is {
			t.Errorf("Less(%v, %v) is not %v", c.a, c.b, c.is)
		}
	}
}

// TestLessByChance: P6.2, longer rows with many like numbers.
func TestLessByChance(t *testing.T) {
	chance := newChance(5)
	row := func() []int {
		l := make([]int, chance.IntN(9))
		for i := range l {
			l[i] = chance.IntN(5) - 2
		}
		return l
	}
	for range 20000 {
		a, b := row(), row()
		if got, want := measure.Less(a, b), below(a, b); got != want {
			t.Fatalf("Less(%v, %v): %v, not %v", a, b, got, want)
		}
	}
}

// TestRowsStay: R3, the rows that are handed in stay as they were, behind their ends, too, and what is answered is the caller's own.
func TestRowsStay(t *testing.T) {
	f := made(t, chapter())
	a, b := []int{1, 5, 2, 9, 9}, []int{3, 1, 4, 8, 8}
	measure.Less(a[:3], b[:3])
	if !slices.Equal(a, []int{1, 5, 2, 9, 9}) || !slices.Equal(b, []int{3, 1, 4, 8, 8}) {
		t.Errorf("Less has made %v and %v of the rows", a, b)
	}
	first, e := measure.Weights(f, a[:3])
	if e != api.OK || !slices.Equal(a, []int{1, 5, 2, 9, 9}) {
		t.Errorf("Weights has made %v of the numbers, error %d", a, e)
	}
	first[0], a[0] = 77, 4
	if l, _ := measure.Weights(f, []int{1, 5, 2}); !slices.Equal(l, []int{8, 4, 1}) {
		t.Errorf("Weights again: %v", l)
	}
	if !slices.Equal(first, []int{77, 4, 1}) {
		t.Errorf("what was answered has become %v", first)
	}
}
