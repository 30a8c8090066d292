package measure_test

import (
	"testing"

	"dictum/api"
	"dictum/measure"
)

// TestCounts: P6.1 and P6.4, Size, Depth, Weight and Grade of each kind of formula, of implications on the left and on the right.
func TestCounts(t *testing.T) {
	f := made(t, []api.Node{
		atom("p"), bot(), atom("q"), // 0, 1, 2
		join(api.KAnd, 0, 2), join(api.KOr, 0, 2), join(api.KImp, 0, 2), // 3, 4, 5
		join(api.KAnd, 0, 0), join(api.KOr, 0, 0), join(api.KImp, 0, 0), join(api.KImp, 1, 1), // 6, 7, 8, 9
		join(api.KImp, 5, 0), join(api.KImp, 0, 5), join(api.KImp, 10, 5), join(api.KImp, 5, 10), // 10: (p -> q) -> p, 11: p -> p -> q, 12: 10 -> 5, 13: 5 -> 10
		join(api.KAnd, 5, 10), join(api.KAnd, 10, 5), join(api.KOr, 5, 12), join(api.KOr, 12, 5), // 14, 15, 16, 17
		join(api.KAnd, 0, 14), join(api.KOr, 14, 0), join(api.KImp, 14, 2), join(api.KImp, 2, 12), // 18, 19, 20, 21
		join(api.KImp, 3, 4), join(api.KImp, 4, 3), join(api.KImp, 0, 4), // 22, 23, 24
	})
	for id, want := range [][4]int{
		{1, 0, 1, 0}, {1, 0, 1, 0}, {1, 0, 1, 0},
		{3, 1, 4, 0}, {3, 1, 3, 0}, {3, 1, 3, 1},
		{3, 1, 4, 0}, {3, 1, 3, 0}, {3, 1, 3, 1}, {3, 1, 3, 1},
		{5, 2, 5, 2}, {5, 2, 5, 1}, {9, 3, 9, 3}, {9, 3, 9, 2},
		{9, 3, 10, 2}, {9, 3, 10, 2}, {13, 4, 13, 3}, {13, 4, 13, 3},
		{11, 4, 13, 2}, {11, 4, 12, 2}, {11, 4, 12, 3}, {11, 4, 11, 3},
		{7, 2, 8, 1}, {7, 2, 8, 1}, {5, 2, 5, 1},
	} {
		for i, c := range counts() {
			is(t, c, f, id, want[i])
		}
	}
}

// TestCountsOfDeepTables: P6.1 and P6.4, a table that is full, in which each row has the one ahead of it on its left: Depth and Grade go all the way.
func TestCountsOfDeepTables(t *testing.T) {
	for _, kind := range []api.Kind{api.KAnd, api.KOr, api.KImp} {
		f := made(t, full(kind))
		for id := 1; id < api.MaxForms; id++ {
			joins := id - 1
			want := map[string]int{"Size": 1 + 2*joins, "Depth": joins, "Weight": 1 + 2*joins, "Grade": 0}
			if kind == api.KAnd {
				want["Weight"] += joins
			}
			if kind == api.KImp {
				want["Grade"] = joins
			}
			for _, c := range counts() {
				is(t, c, f, id, want[c.name])
			}
		}
	}
}

// TestGradeOnTheRight: P6.4, implications on the right of each other are no deeper than one.
func TestGradeOnTheRight(t *testing.T) {
	rows := []api.Node{atom("p")}
	for i := range 500 {
		rows = append(rows, join(api.KImp, 0, i))
	}
	f := made(t, rows)
	for id := 1; id < len(rows); id++ {
		is(t, count{"Grade", measure.Grade}, f, id, 1)
		is(t, count{"Depth", measure.Depth}, f, id, id)
	}
}
