package measure

import (
	"slices"

	"dictum/api"
	"dictum/formula"
)

// sides tells how often something stands positively, and how often negatively.
type sides struct{ pos, neg int }

func (s sides) plus(o sides) sides { return sides{sum(s.pos, o.pos), sum(s.neg, o.neg)} }

func (s sides) turned() sides { return sides{s.neg, s.pos} }

// places answers a function that tells how often a formula stands in the formula id, and on which side. The rows are gone through from the whole down: a row's number is above its parts', so all that it stands in was counted ahead of it.
func places(t *formula.Table, id int) func(part int) sides {
	counted := map[int]sides{id: {pos: 1}}
	for _, row := range slices.Backward(below(t, id)) {
		n, _ := t.Node(row)
		if n.Kind == api.KAtom || n.Kind == api.KBot {
			continue
		}
		whole := counted[row]
		counted[n.R] = counted[n.R].plus(whole)
		if n.Kind == api.KImp {
			whole = whole.turned()
		}
		counted[n.L] = counted[n.L].plus(whole)
	}
	return func(part int) sides { return counted[part] }
}

// below answers the numbers of all formulas of which one of the table is made, rising.
func below(t *formula.Table, id int) []int {
	l, _ := t.Below(id)
	return l
}

// names answers the names of the atoms in a formula that are asked for, by bytes.
func names(t *formula.Table, id int, wanted func(atom int) bool) []string {
	var l []string
	for _, part := range below(t, id) {
		if n, _ := t.Node(part); n.Kind == api.KAtom && wanted(part) {
			l = append(l, n.Name)
		}
	}
	slices.Sort(l)
	return l
}

// Atoms answers the names of a formula's atoms, by bytes (P6.3).
func Atoms(t *formula.Table, id int) ([]string, api.Errno) {
	if e := refused(t, id); e != api.OK {
		return nil, e
	}
	return names(t, id, func(int) bool { return true }), api.OK
}

// Signs answers the names of the atoms that stand somewhere positively, and of those that stand somewhere negatively, by bytes (P6.3).
func Signs(t *formula.Table, id int) ([]string, []string, api.Errno) {
	if e := refused(t, id); e != api.OK {
		return nil, nil, e
	}
	stands := places(t, id)
	pos := names(t, id, func(atom int) bool { return stands(atom).pos > 0 })
	neg := names(t, id, func(atom int) bool { return stands(atom).neg > 0 })
	return pos, neg, api.OK
}

// Occurs counts how often a formula stands positively, and how often negatively, in another one, up to MaxCount each (P6.4).
func Occurs(t *formula.Table, part int, id int) (int, int, api.Errno) {
	if e := refused(t, part, id); e != api.OK {
		return 0, 0, e
	}
	n := places(t, id)(part)
	return n.pos, n.neg, api.OK
}

// Within tells whether a formula stands in another one, itself included (P6.4).
func Within(t *formula.Table, part int, id int) bool {
	_, found := slices.BinarySearch(below(t, id), part)
	return found
}
