package classical

import (
	"iter"
	"slices"

	"dictum/api"
	"dictum/formula"
	"dictum/measure"
)

// atoms answers the names of the atoms of some formulas, of all together, by bytes.
func atoms(t *formula.Table, ids ...int) ([]string, api.Errno) {
	var names []string
	for _, id := range ids {
		l, e := measure.Atoms(t, id)
		if e != api.OK {
			return nil, e
		}
		names = append(names, l...)
	}
	slices.Sort(names)
	names = slices.Compact(names)
	if len(names) > api.MaxAtoms { // told behind all of ids, since one that is no formula's comes first
		return nil, api.ErrAtoms
	}
	return names, api.OK
}

// isTrue tells whether row n makes atom number i true.
func isTrue(n, i int) bool { return n>>i&1 == 1 }

// row answers row n, atom by atom.
func row(n, atoms int) []bool {
	values := make([]bool, atoms)
	for i := range values {
		values[i] = isTrue(n, i)
	}
	return values
}

// rowsOf goes through the rows that have a value, rising.
func rowsOf(values []bool, wanted bool) iter.Seq[int] {
	return func(yield func(int) bool) {
		for n, value := range values {
			if value == wanted && !yield(n) {
				return
			}
		}
	}
}

// imaged answers the image of a formula of the table. Each formula of which it is made gets one, from the least number on, so that parts have theirs ahead of what is made of them; image tells it by the formula's number, its row and its parts' images. (What has no parts is not to look at these.)
func imaged[S any](t *formula.Table, id int, image func(id int, n api.Node, l, r S) S) S {
	below, _ := t.Below(id)
	images := make([]S, id+1)
	for _, part := range below {
		n, _ := t.Node(part)
		images[part] = image(part, n, images[n.L], images[n.R])
	}
	return images[id]
}

// valued answers a formula's value in each row of the truth table of these atoms. Each part is reckoned once, in all rows: it may stand in more places than anybody could go through.
func valued(t *formula.Table, names []string, id int) []bool {
	return imaged(t, id, func(_ int, part api.Node, l, r []bool) []bool {
		value := valueOf(part, names, l, r)
		values := make([]bool, 1<<len(names))
		for n := range values {
			values[n] = value(n)
		}
		return values
	})
}

// valueOf answers what tells a formula's value in row n, if l and r are its parts' values.
func valueOf(whole api.Node, names []string, l, r []bool) func(n int) bool {
	switch whole.Kind {
	case api.KAtom:
		i := slices.Index(names, whole.Name)
		return func(n int) bool { return isTrue(n, i) }
	case api.KAnd:
		return func(n int) bool { return l[n] && r[n] }
	case api.KOr:
		return func(n int) bool { return l[n] || r[n] }
	case api.KImp:
		return func(n int) bool { return !l[n] || r[n] }
	}
	return func(int) bool { return false }
}
