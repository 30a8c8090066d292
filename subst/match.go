package subst

import (
	"cmp"
	"slices"

	"dictum/api"
	"dictum/formula"
)

// Match tells by which formulas a pattern becomes a formula (P7.4). Each formula stands once in the table, so a part of the pattern has one formula against it wherever it stands, and one way down over the pattern's rows tells all.
func Match(t *formula.Table, pattern int, id int) ([]api.Hyp, bool, api.Errno) {
	if e := refused(t, pattern, id); e != api.OK {
		return nil, false, e
	}
	below, e := t.Below(pattern)
	against := map[int]int{pattern: id}
	stands := func(part, form int) bool {
		other, told := against[part]
		against[part] = form
		return !told || other == form
	}
	var atoms []api.Hyp
	for _, part := range slices.Backward(below) { // falling, so all that a part stands in comes ahead of it
		form := against[part]
		row, _ := t.Node(part)
		whole, _ := t.Node(form)
		switch {
		case row.Kind == api.KAtom:
			atoms = append(atoms, api.Hyp{Name: row.Name, Form: form})
		case row.Kind != whole.Kind:
			return nil, false, api.OK
		case joins(row.Kind) && !(stands(row.L, whole.L) && stands(row.R, whole.R)):
			return nil, false, api.OK
		}
	}
	slices.SortFunc(atoms, func(a, b api.Hyp) int { return cmp.Compare(a.Name, b.Name) })
	return atoms, true, e
}
