package interp

import (
	"slices"

	"dictum/api"
	"dictum/measure"
)

// asked is a formula of which the weakest reason without the atom is asked (all), or the strongest consequence.
type asked struct {
	id  int
	all bool
}

// quantifier tells what is left of formulas of its table without an atom, as Pitts does: a formula is taken for a sequent whose left side is opened by the rules of layer 9, so that what is asked next weighs less.
type quantifier struct {
	*maker
	name string
	told map[asked]int
}

// over answers what is asked of a formula and an atom.
func (m *maker) over(id int, name string, all bool) int {
	q := &quantifier{m, name, map[asked]int{}}
	return q.ask(asked{id, all})
}

// ask answers what is asked. Where the table is full it asks of row 0, which has no parts, so that it ends.
func (q *quantifier) ask(of asked) int {
	of.id = q.filled(of.id, q.name, q.atom(q.name)) // the same formula, but simpler
	if id, ok := q.told[of]; ok {
		return id
	}
	id := q.tell(of)
	q.told[of] = id
	return id
}

// tell answers at once where the atom does not stand on both sides: then false or true in its place makes the formula as weak, or as strong, as any other one can.
func (q *quantifier) tell(of asked) int {
	pos, neg, _ := measure.Signs(q.t, of.id)
	positive, negative := slices.Contains(pos, q.name), slices.Contains(neg, q.name)
	switch {
	case positive && negative && of.all:
		return q.forall(of.id)
	case positive && negative:
		return q.exists(of.id)
	case positive == of.all:
		return q.filled(of.id, q.name, q.bot())
	}
	return q.filled(of.id, q.name, q.top())
}

// side is what is asked of a left side, and how the answer is joined of parts.
type side struct {
	all    bool
	whole  func(left []int) int // the formula for which a left side stands
	held   func(l, r int) int   // a formula without the atom, and the answer of what stands beside it
	fork   func(l, r int) int   // the answers of both parts of an or
	gate   func(l, r int) int   // what opens an implication, and the answer of what is behind it
	gather func(l, r int) int   // the answers of two implications
	none   int                  // the answer of no implications
}

func (q *quantifier) exists(id int) int {
	s := side{whole: q.together, held: q.both, fork: q.either, gate: q.then, gather: q.both, none: q.top()}
	left := q.parted(id)
	if x, ok := q.opened(s, left); ok {
		return x
	}
	return q.gathered(s, left)
}

func (q *quantifier) forall(id int) int {
	left, goal := q.curried(id)
	toward := func(goal int) int { return q.ask(asked{q.toward(left, goal), true}) }
	n := q.node(goal)
	if n.Kind == api.KAnd {
		return q.both(toward(n.L), toward(n.R))
	}
	whole := func(left []int) int { return q.toward(left, goal) }
	s := side{all: true, whole: whole, held: q.then, fork: q.both, gate: q.both, gather: q.either, none: q.bot()}
	if x, ok := q.opened(s, left); ok {
		return x
	}
	reason := q.ask(asked{q.together(left), false})
	if !q.has(goal) {
		return q.then(reason, goal)
	}
	x := q.gathered(s, left)
	if n.Kind == api.KOr {
		x = q.either(x, q.either(toward(n.L), toward(n.R)))
	}
	return q.then(reason, x)
}

// has tells whether a formula has the atom.
func (q *quantifier) has(id int) bool {
	names, _ := measure.Atoms(q.t, id)
	return slices.Contains(names, q.name)
}

// parted answers the formulas of which some are made by and, rising.
func (q *quantifier) parted(ids ...int) []int {
	var left []int
	for _, id := range ids {
		if n := q.node(id); n.Kind == api.KAnd {
			left = append(left, q.parted(n.L, n.R)...)
		} else {
			left = append(left, id)
		}
	}
	slices.Sort(left)
	return slices.Compact(left)
}

// curried answers the left side and the goal that a row of implications has.
func (q *quantifier) curried(id int) ([]int, int) {
	var left []int
	n := q.node(id)
	for ; n.Kind == api.KImp; n = q.node(id) {
		left, id = append(left, n.L), n.R
	}
	return q.parted(left...), id
}

// together makes what says all of a left side.
func (q *quantifier) together(left []int) int {
	if len(left) == 0 {
		return q.top()
	}
	last := len(left) - 1
	id := left[last]
	for _, f := range slices.Backward(left[:last]) {
		id = q.and(f, id)
	}
	return id
}

// toward makes what says that a goal follows from a left side.
func (q *quantifier) toward(left []int, goal int) int { return q.imp(q.together(left), goal) }

// beside is a left side without one of its formulas, but with some more.
func (q *quantifier) beside(left []int, f int, more ...int) []int {
	for _, g := range left {
		if g != f {
			more = append(more, g)
		}
	}
	return q.parted(more...)
}

// opened answers what is asked of a left side by its first formula that loses nothing by being opened, if there is one.
func (q *quantifier) opened(s side, left []int) (int, bool) {
	for _, f := range left {
		if x, ok := q.open(s, left, f); ok {
			return x, true
		}
	}
	return 0, false
}

// open opens one formula of a left side.
func (q *quantifier) open(s side, left []int, f int) (int, bool) {
	with := func(more ...int) int { return q.ask(asked{s.whole(q.beside(left, f, more...)), s.all}) }
	n := q.node(f)
	l := q.node(n.L)
	name, by := q.literal(n)
	filled := func() int { return q.ask(asked{q.filled(s.whole(q.beside(left, f)), name, by), s.all}) }
	switch {
	case name == q.name:
		return filled(), true
	case name != "":
		return s.held(f, filled()), true
	case !q.has(f):
		return s.held(f, with()), true
	case n.Kind == api.KOr:
		return s.fork(with(n.L), with(n.R)), true
	case l.Kind == api.KAnd: // what is left are implications
		return with(q.imp(l.L, q.imp(l.R, n.R))), true
	case l.Kind == api.KOr:
		return with(q.imp(l.L, n.R), q.imp(l.R, n.R)), true
	}
	return 0, false
}

// literal answers the name of an atom, or of an atom that is negated, and what may stand in its place beside that.
func (q *quantifier) literal(n api.Node) (string, int) {
	if n.Kind == api.KImp && q.node(n.R).Kind == api.KBot {
		return q.node(n.L).Name, q.bot()
	}
	return n.Name, q.top()
}

// gathered answers what is asked of a left side of implications none of which can be opened without a loss, as only an atom or an implication that follows opens it.
func (q *quantifier) gathered(s side, left []int) int {
	x := s.none
	for _, f := range left {
		n := q.node(f)
		l := q.node(n.L)
		behind := func() int { return q.ask(asked{s.whole(q.beside(left, f, n.R)), s.all}) }
		switch {
		case l.Kind == api.KImp:
			first := q.toward(q.beside(left, f, q.imp(l.R, n.R)), n.L)
			x = s.gather(x, s.gate(q.ask(asked{first, true}), behind()))
		case l.Name != q.name:
			x = s.gather(x, s.gate(n.L, behind()))
		}
	}
	return x
}
