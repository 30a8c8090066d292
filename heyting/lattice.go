package heyting

import (
	"slices"

	"dictum/api"
)

// lattice is what is reckoned of an algebra once a call: the elements that are at most one, the meeting and the joining of any two, and the bounds.
type lattice struct {
	below    func(x int) set
	meet     [][]int
	join     [][]int
	least    int
	greatest int
}

// reckoned answers the lattice of an algebra, unless it is none, or one of some numbers is no element's.
func reckoned(a api.Algebra, some ...int) (lattice, api.Errno) {
	if !shaped(a.Leq) {
		return lattice{}, api.ErrAlgebra
	}
	many := len(a.Leq)
	below := related(many, func(x, y int) bool { return a.Leq[y][x] })
	above := related(many, func(x, y int) bool { return a.Leq[x][y] })
	if !isPartialOrder(many, above) {
		return lattice{}, api.ErrAlgebra
	}
	l, ok := latticeOf(many, below, above)
	if !ok || !l.distributive() {
		return lattice{}, api.ErrAlgebra
	}
	if slices.ContainsFunc(some, func(x int) bool { return !isElement(x, many) }) {
		return lattice{}, api.ErrArg
	}
	return l, api.OK
}

func isElement(x, many int) bool { return x >= 0 && x < many }

// shaped tells whether there are as many elements as may be, and as many entries in each row.
func shaped(rows [][]bool) bool {
	many := len(rows)
	if many < 1 || many > api.MaxElems {
		return false
	}
	return !slices.ContainsFunc(rows, func(row []bool) bool { return len(row) != many })
}

// related answers what tells of each element the set of those that stand to it as a function asks.
func related(many int, is func(x, y int) bool) func(x int) set {
	sets := make([]set, many)
	for x := range many {
		sets[x] = chosen(many, func(y int) bool { return is(x, y) })
	}
	return func(x int) set { return sets[x] }
}

// isPartialOrder asks the three laws, if above tells the elements that one is at most.
func isPartialOrder(many int, above func(x int) set) bool {
	for x := range many {
		if !above(x).has(x) {
			return false
		}
		for _, y := range above(x).numbers() {
			if y != x && above(y).has(x) || !above(y).within(above(x)) {
				return false
			}
		}
	}
	return true
}

// latticeOf reckons the lattice that a partial order is; false, if two elements have no meeting or no joining.
func latticeOf(many int, below, above func(x int) set) (lattice, bool) {
	meet, met := underBoth(many, below)
	join, joined := underBoth(many, above)
	if !met || !joined {
		return lattice{}, false
	}
	// Where any two elements have a meeting and a joining, all of them together have them, too.
	all := chosen(many, func(int) bool { return true })
	least, _ := topmost(many, above, all)
	greatest, _ := topmost(many, below, all)
	return lattice{below, meet, join, least, greatest}, true
}

// underBoth answers of any two elements the topmost one of those that are under both; false, if two have none. What is under an element is told by a function: what is at most it, or, for joinings, what it is at most.
func underBoth(many int, under func(x int) set) ([][]int, bool) {
	found := make([][]int, many)
	for x := range many {
		for y := range many {
			z, ok := topmost(many, under, under(x)&under(y))
			if !ok {
				return nil, false
			}
			found[x] = append(found[x], z)
		}
	}
	return found, true
}

// topmost answers the one of a set that all of the set are under; false, if there is none.
func topmost(many int, under func(x int) set, some set) (int, bool) {
	for z := range many {
		if some.has(z) && some.within(under(z)) {
			return z, true
		}
	}
	return 0, false
}

// distributive tells whether the meeting of x with the joining of y and z is the joining of the meetings of x with both.
func (l lattice) distributive() bool {
	for _, meet := range l.meet { // those of x
		for y, join := range l.join {
			for z, both := range join[:y] { // y and z the other way round say the same
				if meet[both] != l.join[meet[y]][meet[z]] {
					return false
				}
			}
		}
	}
	return true
}

// imp answers the greatest element whose meeting with x is at most y. A distributive lattice of finitely many elements has it.
func (l lattice) imp(x, y int) int {
	many := len(l.meet)
	z, _ := topmost(many, l.below, chosen(many, func(z int) bool { return l.below(y).has(l.meet[z][x]) }))
	return z
}

// valueOf answers the element that a row of a table is; values has those of its parts.
func (l lattice) valueOf(n api.Node, named map[string]int, values []int) int {
	switch n.Kind {
	case api.KAtom:
		return named[n.Name]
	case api.KAnd:
		return l.meet[values[n.L]][values[n.R]]
	case api.KOr:
		return l.join[values[n.L]][values[n.R]]
	case api.KImp:
		return l.imp(values[n.L], values[n.R])
	}
	return l.least
}

// byName answers the elements by their names; false, if one is none, or two have one name.
func byName(by []api.Hyp, many int) (map[string]int, bool) {
	named := map[string]int{}
	for _, one := range by {
		if _, twice := named[one.Name]; twice || !isElement(one.Form, many) {
			return nil, false
		}
		named[one.Name] = one.Form
	}
	return named, true
}

// primes answers the elements that are not the least one and no joining of two others.
func (l lattice) primes() []int {
	var found []int
	for x := range l.join {
		if x != l.least && !l.isJoined(x) {
			found = append(found, x)
		}
	}
	return found
}

// isJoined tells whether an element is the joining of two others.
func (l lattice) isJoined(x int) bool {
	for y, join := range l.join {
		for z, both := range join {
			if y != x && z != x && both == x {
				return true
			}
		}
	}
	return false
}

// ordered answers the algebra of so many elements of which a function tells the order.
func ordered(many int, leq func(x, y int) bool) api.Algebra {
	a := api.Algebra{Leq: make([][]bool, many)}
	for x := range many {
		for y := range many {
			a.Leq[x] = append(a.Leq[x], leq(x, y))
		}
	}
	return a
}
