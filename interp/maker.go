package interp

import (
	"dictum/api"
	"dictum/formula"
	"dictum/search"
	"dictum/subst"
)

// easy is how many sequents a search may enter that is only there to make a formula shorter.
const easy = 100

// maker makes formulas of a table until the table refuses one; from then on it makes nothing, and what it answers means nothing.
type maker struct {
	t    *formula.Table
	full bool
}

func newMaker() *maker { return &maker{t: formula.New()} }

func (m *maker) put(n api.Node) int {
	if m.full {
		return 0
	}
	id, e := m.t.Put(n)
	m.full = e != api.OK
	return id
}

func (m *maker) node(id int) api.Node {
	n, _ := m.t.Node(id)
	return n
}

func (m *maker) atom(name string) int { return m.put(api.Node{Kind: api.KAtom, Name: name}) }

func (m *maker) bot() int { return m.put(api.Node{Kind: api.KBot}) }

func (m *maker) top() int { return m.imp(m.bot(), m.bot()) }

func (m *maker) and(l, r int) int { return m.put(api.Node{Kind: api.KAnd, L: l, R: r}) }

func (m *maker) or(l, r int) int { return m.put(api.Node{Kind: api.KOr, L: l, R: r}) }

func (m *maker) imp(l, r int) int { return m.put(api.Node{Kind: api.KImp, L: l, R: r}) }

func isJoined(n api.Node) bool { return n.Kind != api.KAtom && n.Kind != api.KBot }

// take makes a formula of another table.
func (m *maker) take(from *formula.Table, id int) int {
	below, _ := from.Below(id)
	images := make(map[int]int, len(below))
	for _, part := range below { // rising, so a part's image is there ahead of what is made of it
		n, _ := from.Node(part)
		if isJoined(n) {
			n.L, n.R = images[n.L], images[n.R]
		}
		images[part] = m.put(n)
	}
	return images[id]
}

// turned makes what a call of layer 7 answers, and makes that simply simpler.
func (m *maker) turned(call func(t *formula.Table) (int, api.Errno)) int {
	if m.full {
		return 0
	}
	id, e := call(m.t)
	if e == api.OK {
		id, e = subst.Simple(m.t, id)
	}
	m.full = e != api.OK
	return id
}

// filled makes a formula with another one in an atom's place.
func (m *maker) filled(id int, name string, by int) int {
	return m.turned(func(t *formula.Table) (int, api.Errno) { return subst.Frame(t, id, name, by) })
}

// proves tells whether some formulas are shown to prove another one by a search that enters no more sequents than budget. It leaves no rows behind.
func (m *maker) proves(budget int, goal int, left ...int) bool {
	if m.full {
		return false
	}
	rows := m.t.Len()
	found, _ := search.Run(m.t, api.Seq{Left: set(left...), Goal: goal}, budget)
	m.t.Cut(rows)
	return found.Proved
}

// both joins two formulas to one that says them both: one of them, where it says the other one, too.
func (m *maker) both(l, r int) int {
	switch {
	case m.proves(easy, r, l):
		return l
	case m.proves(easy, l, r):
		return r
	}
	return m.and(l, r)
}

// either joins two formulas to one that says that one of them holds.
func (m *maker) either(l, r int) int {
	switch {
	case m.proves(easy, r, l):
		return r
	case m.proves(easy, l, r):
		return l
	}
	return m.or(l, r)
}

// then joins two formulas to one that says that the second one follows from the first one.
func (m *maker) then(l, r int) int {
	switch {
	case m.proves(easy, r, l):
		return m.top()
	case m.proves(easy, l):
		return r
	}
	return m.imp(l, r)
}
