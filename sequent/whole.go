package sequent

import (
	"slices"

	"dictum/api"
	"dictum/bits"
	"dictum/formula"
)

// restoring answers a function that puts the table back to what it is now.
func restoring(t *formula.Table) func() {
	rows := t.Len()
	return func() { t.Cut(rows) }
}

// orBack answers what was made, or, if that was refused, puts the table back.
func orBack(back func(), id int, e api.Errno) (int, api.Errno) {
	if e != api.OK {
		back()
		return 0, e
	}
	return id, api.OK
}

// Whole answers the formula that says the same (P8.5).
func Whole(t *formula.Table, s api.Seq) (int, api.Errno) {
	if e := Check(t, s); e != api.OK {
		return 0, e
	}
	all, some := bits.Next(s.Left, 0)
	if !some {
		return s.Goal, api.OK
	}
	back := restoring(t)
	e := api.OK
	for id := range bits.All(bits.Drop(s.Left, all)) {
		if all, e = t.And(all, id); e != api.OK {
			return orBack(back, 0, e)
		}
	}
	id, e := t.Imp(all, s.Goal)
	return orBack(back, id, e)
}

// Curry answers it as implications (P8.5).
func Curry(t *formula.Table, s api.Seq) (int, api.Errno) {
	if e := Check(t, s); e != api.OK {
		return 0, e
	}
	back := restoring(t)
	whole, e := s.Goal, api.OK
	for _, id := range slices.Backward(bits.List(s.Left)) { // what stands innermost must be a row first
		if whole, e = t.Imp(id, whole); e != api.OK {
			return orBack(back, 0, e)
		}
	}
	return whole, api.OK
}
