package measure_test

import (
	"slices"
	"testing"

	"dictum/api"
	"dictum/measure"
)

// TestDoubledCounts: P6.1 and P6.4, a formula whose parts are shared: counts double from row to row up to MaxCount and stay there, in a full table, too; Depth and Grade go on.
func TestDoubledCounts(t *testing.T) {
	for _, kind := range []api.Kind{api.KAnd, api.KOr, api.KImp} {
		rows := doubled(kind, api.MaxForms-1)
		f := made(t, rows)
		want := reckon(rows, 0)
		for id := range rows {
			is(t, count{"Size", measure.Size}, f, id, ended(want.size[id]))
			is(t, count{"Weight", measure.Weight}, f, id, ended(want.weight[id]))
			is(t, count{"Depth", measure.Depth}, f, id, id)
			grade := 0
			if kind == api.KImp {
				grade = id
			}
			is(t, count{"Grade", measure.Grade}, f, id, grade)
			occurs(t, f, 0, id, ended(want.pos[id]), ended(want.neg[id]))
			occurs(t, f, id, id, 1, 0)
		}
	}
}

// edge has formulas whose counts stand about MaxCount. Behind 38 joinings by or stands A (38): of it are made 39: A | A, 40: A & A, 41: 39 | p, 42: 39 & p, 43: 40 | p, 44: A -> A, 45: 39 | 39, 46: 40 -> p.
func edge() []api.Node {
	return append(doubled(api.KOr, 38),
		join(api.KOr, 38, 38), join(api.KAnd, 38, 38), join(api.KOr, 39, 0), join(api.KAnd, 39, 0), join(api.KOr, 40, 0), join(api.KImp, 38, 38), join(api.KOr, 39, 39), join(api.KImp, 40, 0))
}

// TestEdgeOfCounts: P6.1, just below MaxCount, at it, and above it.
func TestEdgeOfCounts(t *testing.T) {
	const most = api.MaxCount
	f := made(t, edge())
	for _, c := range []struct{ id, size, weight int }{
		{38, most/2 - 1, most/2 - 1},
		{39, most - 1, most - 1},
		{40, most - 1, most},
		{41, most, most},
		{42, most, most},
		{43, most, most},
		{44, most - 1, most - 1},
		{45, most, most},
		{46, most, most},
	} {
		is(t, count{"Size", measure.Size}, f, c.id, c.size)
		is(t, count{"Weight", measure.Weight}, f, c.id, c.weight)
	}
	ids := []int{0, 46, 39, 40, 38, 45, 44}
	want := []int{most, most, most, most - 1, most - 1, most/2 - 1, 1}
	if l, e := measure.Weights(f, ids); !slices.Equal(l, want) || e != api.OK {
		t.Errorf("Weights: %v, error %d, not %v", l, e, want)
	}
}

// TestEdgeOfOccurs: P6.4, as often as MaxCount less one, as MaxCount, and more, on the one side, on the other, and on both.
func TestEdgeOfOccurs(t *testing.T) {
	const most = api.MaxCount
	rows := doubled(api.KAnd, 41) // row i holds p 2^i times
	put := func(n api.Node) int {
		rows = append(rows, n)
		return len(rows) - 1
	}
	less := 0
	for i := 1; i < 40; i++ { // p once, twice, four times and so on, 2^39 times: in all one less than MaxCount
		less = put(join(api.KOr, less, i))
	}
	even := put(join(api.KOr, less, 0))
	more := put(join(api.KOr, even, 0))
	q := put(atom("q"))
	var below []int
	for _, id := range []int{less, even, more} {
		below = append(below, put(join(api.KImp, id, q)))
	}
	both := put(join(api.KImp, less, even))
	twice := put(join(api.KAnd, both, below[0]))
	back := put(join(api.KImp, both, q))
	f := made(t, rows)
	occurs(t, f, 0, less, most-1, 0)
	occurs(t, f, 0, even, most, 0)
	occurs(t, f, 0, more, most, 0)
	occurs(t, f, 0, 39, most/2, 0)
	occurs(t, f, 0, 40, most, 0)
	occurs(t, f, 0, 41, most, 0)
	occurs(t, f, 1, 41, most, 0)
	occurs(t, f, 2, 41, most/2, 0)
	occurs(t, f, 0, below[0], 0, most-1)
	occurs(t, f, 0, below[1], 0, most)
	occurs(t, f, 0, below[2], 0, most)
	occurs(t, f, 0, both, most, most-1)
	occurs(t, f, 0, twice, most, most)
	occurs(t, f, 0, back, most-1, most)
	occurs(t, f, less, back, 1, 1)
}

// TestNoCountRunsOver: P6.1 and P6.4, rows by chance that share much, against numbers that have no end.
func TestNoCountRunsOver(t *testing.T) {
	chance := newChance(3)
	most := 0
	for range 40 {
		rows := someRows(chance, 200, 4)
		f := made(t, rows)
		part := chance.IntN(60)
		want := reckon(rows, part)
		for id := range rows {
			is(t, count{"Size", measure.Size}, f, id, ended(want.size[id]))
			is(t, count{"Weight", measure.Weight}, f, id, ended(want.weight[id]))
			occurs(t, f, part, id, ended(want.pos[id]), ended(want.neg[id]))
			if ended(want.size[id]) == api.MaxCount {
				most++
			}
		}
	}
	if most < 100 {
		t.Errorf("only %d of the formulas are so large", most)
	}
}
