package logics

import (
	"dictum/api"
	"dictum/formula"
	"dictum/octet"
)

// maker makes formulas of a table, one behind the other, until the table refuses one; from then on it makes nothing. Parts that are made within a call are made from left to right ahead of the whole, so that a formula that is written down has its rows in the order of the chapter.
type maker struct {
	t       *formula.Table
	refusal api.Errno
}

// made answers the formula that is made. If the table has refused a part of it, it loses what it got.
func made(t *formula.Table, making func(m *maker) int) (int, api.Errno) {
	rows := t.Len()
	m := maker{t: t}
	id := making(&m)
	if m.refusal != api.OK {
		t.Cut(rows)
		return 0, m.refusal
	}
	return id, api.OK
}

func (m *maker) put(n api.Node) int {
	if m.refusal != api.OK {
		return 0
	}
	id, e := m.t.Put(n)
	m.refusal = e
	return id
}

func (m *maker) not(id int) int {
	if m.refusal != api.OK {
		return 0
	}
	id, e := m.t.Not(id)
	m.refusal = e
	return id
}

func (m *maker) atom(name string) int { return m.put(api.Node{Kind: api.KAtom, Name: name}) }

func (m *maker) and(l, r int) int { return m.put(api.Node{Kind: api.KAnd, L: l, R: r}) }

func (m *maker) or(l, r int) int { return m.put(api.Node{Kind: api.KOr, L: l, R: r}) }

func (m *maker) imp(l, r int) int { return m.put(api.Node{Kind: api.KImp, L: l, R: r}) }

// axiom makes the axiom of one of the seven logics.
func (m *maker) axiom(k api.Logic, n int) int {
	p := func() int { return m.atom("p") }
	q := func() int { return m.atom("q") }
	r := func() int { return m.atom("r") }
	notP := func() int { return m.not(p()) }
	switch k {
	case api.LogicCL:
		return m.middle("p")
	case api.LogicLC:
		return m.inRow(p(), q())
	case api.LogicBD:
		return m.bounded(n)
	case api.LogicKP:
		return m.imp(m.imp(notP(), m.or(q(), r())), m.or(m.imp(notP(), q()), m.imp(notP(), r())))
	case api.LogicSL:
		return m.imp(m.imp(m.imp(m.not(notP()), p()), m.middle("p")), m.axiom(api.LogicKC, 0))
	case api.LogicSM:
		return m.imp(m.imp(m.not(q()), p()), m.imp(m.imp(m.imp(p(), q()), p()), p()))
	}
	return m.or(notP(), m.not(notP())) // LogicKC's
}

// middle makes an atom or its negation, which excludes what is between.
func (m *maker) middle(name string) int { return m.or(m.atom(name), m.not(m.atom(name))) }

// inRow makes: one of two formulas implies the other one.
func (m *maker) inRow(b, c int) int { return m.or(m.imp(b, c), m.imp(c, b)) }

// bounded makes BDn out of the one ahead.
func (m *maker) bounded(n int) int {
	name := "p" + octet.Dec(n)
	if n == 1 {
		return m.middle(name)
	}
	return m.or(m.atom(name), m.imp(m.atom(name), m.bounded(n-1)))
}

// reduced makes what says that a formula follows where of any two of the formulas of which it is made, which rise, one implies the other one.
func (m *maker) reduced(id int, below []int) int {
	all, some := 0, false
	for i, b := range below {
		for _, c := range below[i+1:] {
			pair := m.inRow(b, c)
			if some {
				pair = m.and(all, pair)
			}
			all, some = pair, true
		}
	}
	if !some {
		return id
	}
	return m.imp(all, id)
}
