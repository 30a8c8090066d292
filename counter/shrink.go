package counter

import (
	"slices"

	"dictum/api"
	"dictum/bits"
	"dictum/formula"
)

// isRight tells whether all numbers of a sequent are formulas'.
func isRight(t *formula.Table, s api.Seq) bool {
	for id := range bits.All(s.Left) {
		if _, ok := t.Node(id); !ok {
			return false
		}
	}
	_, ok := t.Node(s.Goal)
	return ok
}

// alone answers a table of the formulas alone of which a right sequent is made, and the sequent in it: a search may have made many others, which are not to be looked at world by world.
func alone(t *formula.Table, s api.Seq) (*formula.Table, api.Seq) {
	few := formula.New()
	place := map[int]int{}
	var put func(id int) int
	put = func(id int) int {
		if n, ok := place[id]; ok {
			return n
		}
		row, _ := t.Node(id)
		if row.Kind != api.KAtom && row.Kind != api.KBot {
			row.L, row.R = put(row.L), put(row.R)
		}
		place[id], _ = few.Put(row)
		return place[id]
	}
	own := api.Seq{Goal: put(s.Goal)}
	for id := range bits.All(s.Left) {
		own.Left, _ = bits.Put(own.Left, put(id))
	}
	return few, own
}

// without answers a model without one of its worlds; the order of the others is what it was.
func without(m api.Model, w int) api.Model {
	less := api.Model{Up: dropped(m.Up, w), Val: dropped(m.Val, w)}
	for v, row := range less.Up {
		less.Up[v] = bridged(row, w, m.Up[w])
	}
	return less
}

// bridged answers a row of Up in which the worlds told above a world stand in its place, all by the numbers that they have without it.
func bridged(row []int, w int, over []int) []int {
	if slices.Contains(row, w) {
		row = slices.Concat(row, over)
	}
	var others []int
	for _, v := range row {
		switch {
		case v < w:
			others = append(others, v)
		case v > w:
			others = append(others, v-1)
		}
	}
	return rising(others)
}

// dropped answers a list, of numbers or of a model's rows, without what stands at a place.
func dropped[E any](l []E, at int) []E {
	return slices.Delete(slices.Clone(l), at, at+1)
}
