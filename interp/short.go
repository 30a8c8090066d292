package interp

import (
	"slices"

	"dictum/api"
	"dictum/formula"
	"dictum/measure"
	"dictum/subst"
)

// tries is how many formulas are looked at, at the most, to make one shorter.
const tries = 200

// shorter makes a formula shorter, step by step, as long as it is right: with a shorter one other searches enter fewer sequents.
func (m *maker) shorter(id int, right func(id int) bool) int {
	for most := tries; most > 0; {
		next, looked := m.shortened(id, most, right)
		if next == id {
			break
		}
		id, most = next, most-looked
	}
	return id
}

// shortened answers the first formula that is shorter and right, or else the same one, and how many it has looked at.
func (m *maker) shortened(id int, most int, right func(id int) bool) (int, int) {
	size, _ := measure.Size(m.t, id)
	below, _ := m.t.Below(id)
	looked := 0
	for _, part := range slices.Backward(below) { // the greatest ones first, with which others go, too
		for _, by := range m.simpler(part) {
			if looked == most {
				return id, looked
			}
			looked++
			rows := m.t.Len()
			next := m.replaced(id, part, by())
			n, _ := measure.Size(m.t, next)
			if !m.full && n < size && right(next) {
				return next, looked
			}
			m.full = false
			m.t.Cut(rows)
		}
	}
	return id, looked
}

// simpler are makers of what may stand in a formula's place: false, true, and its parts.
func (m *maker) simpler(id int) []func() int {
	l := []func() int{m.bot, m.top}
	if n := m.node(id); isJoined(n) {
		l = append(l, func() int { return n.L }, func() int { return n.R })
	}
	return l
}

// replaced makes a formula with another one in the place of a part.
func (m *maker) replaced(id int, part int, by int) int {
	return m.turned(func(t *formula.Table) (int, api.Errno) { return subst.Replace(t, id, part, by) })
}
