package classical

import (
	"dictum/api"
	"dictum/formula"
)

// maker makes formulas of a table, one behind the other, until the table refuses one; from then on it makes nothing.
type maker struct {
	t       *formula.Table
	refusal api.Errno
}

// made answers the formula that is made of another one. If the table has refused a part of it, it loses what it got.
func made(t *formula.Table, id int, making func(m *maker, id int) int) (int, api.Errno) {
	if _, e := t.Below(id); e != api.OK {
		return 0, e
	}
	rows := t.Len()
	m := maker{t: t}
	id = making(&m, id)
	if m.refusal != api.OK {
		t.Cut(rows)
		return 0, m.refusal
	}
	return id, api.OK
}

// ask asks a method of the table for a formula made of something.
func ask[A any](m *maker, method func(A) (int, api.Errno), of A) int {
	if m.refusal != api.OK {
		return 0
	}
	id, e := method(of)
	m.refusal = e
	return id
}

func (m *maker) not(id int) int { return ask(m, m.t.Not, id) }

func (m *maker) put(kind api.Kind, l, r int) int {
	return ask(m, m.t.Put, api.Node{Kind: kind, L: l, R: r})
}

func (m *maker) double(id int) int { return m.not(m.not(id)) }

func (m *maker) kolmogorov(id int) int {
	return m.anew(id, func(kind api.Kind, l, r int) int { return m.double(m.put(kind, l, r)) })
}

func (m *maker) gentzen(id int) int {
	return m.anew(id, func(kind api.Kind, l, r int) int {
		if kind == api.KOr {
			return m.not(m.put(api.KAnd, m.not(l), m.not(r)))
		}
		return m.put(kind, l, r)
	})
}

// anew makes a formula anew, with atoms negated twice; joined tells what becomes of two parts, by their images.
func (m *maker) anew(id int, joined func(kind api.Kind, l, r int) int) int {
	return imaged(m.t, id, func(id int, n api.Node, l, r int) int {
		switch n.Kind {
		case api.KAtom:
			return m.double(id)
		case api.KBot:
			return id
		}
		return joined(n.Kind, l, r)
	})
}

// negations takes A -> B as ~A | B; what is negative is what ~ has been taken into.
func (m *maker) negations(id int) int {
	var positively, negatively func(id int) int
	positively = m.once(func(id int, n api.Node) int {
		switch n.Kind {
		case api.KAnd, api.KOr:
			return m.put(n.Kind, positively(n.L), positively(n.R))
		case api.KImp:
			return m.put(api.KOr, negatively(n.L), positively(n.R))
		}
		return id
	})
	negatively = m.once(func(id int, n api.Node) int {
		switch n.Kind {
		case api.KAnd:
			return m.put(api.KOr, negatively(n.L), negatively(n.R))
		case api.KOr:
			return m.put(api.KAnd, negatively(n.L), negatively(n.R))
		case api.KImp:
			return m.put(api.KAnd, positively(n.L), negatively(n.R))
		}
		return m.not(id) // of false, too: that is false -> false
	})
	return positively(id)
}

// once answers what asks a function for each formula a first time only: else the work would double from row to row where a formula has a part twice.
func (m *maker) once(making func(id int, n api.Node) int) func(id int) int {
	kept := map[int]int{}
	return func(id int) int {
		form, ok := kept[id]
		if !ok {
			n, _ := m.t.Node(id)
			form = making(id, n)
			kept[id] = form
		}
		return form
	}
}
