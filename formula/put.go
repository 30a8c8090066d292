package formula

import "dictum/api"

// Put answers the number of a row, which becomes one, if it is none yet (P3.2).
func (t *Table) Put(n api.Node) (int, api.Errno) {
	if !t.made() {
		return 0, api.ErrNil
	}
	if e := t.check(n); e != api.OK {
		return 0, e
	}
	if id, ok := t.places[n]; ok {
		return id, api.OK
	}
	id := len(t.rows)
	if id >= api.MaxForms {
		return 0, api.ErrForms
	}
	t.rows = append(t.rows, n)
	t.places[n] = id
	return id, api.OK
}

// check tells why a row can be none of the table.
func (t *Table) check(n api.Node) api.Errno {
	if !t.shaped(n) {
		return api.ErrForm
	}
	if n.Kind == api.KAtom && !Word(n.Name) {
		return api.ErrAtom
	}
	return api.OK
}

// shaped tells whether a row has what its kind has, and no more; any text will do for an atom's name here.
func (t *Table) shaped(n api.Node) bool {
	switch {
	case n.Kind == api.KAtom:
		return n.L == 0 && n.R == 0
	case n.Kind == api.KBot:
		return n == api.Node{Kind: api.KBot}
	case joins(n.Kind):
		return n.Name == "" && t.has(n.L) && t.has(n.R)
	}
	return false
}

// joins tells whether formulas of that kind are made of two others.
func joins(k api.Kind) bool {
	return k == api.KAnd || k == api.KOr || k == api.KImp
}

// Atom answers an atom (P3.2).
func (t *Table) Atom(name string) (int, api.Errno) {
	return t.Put(api.Node{Kind: api.KAtom, Name: name})
}

// Bot answers false (P3.2).
func (t *Table) Bot() (int, api.Errno) {
	return t.Put(api.Node{Kind: api.KBot})
}

// And answers a & b (P3.2).
func (t *Table) And(a int, b int) (int, api.Errno) {
	return t.Put(api.Node{Kind: api.KAnd, L: a, R: b})
}

// Or answers a | b (P3.2).
func (t *Table) Or(a int, b int) (int, api.Errno) {
	return t.Put(api.Node{Kind: api.KOr, L: a, R: b})
}

// Imp answers a -> b (P3.2).
func (t *Table) Imp(a int, b int) (int, api.Errno) {
	return t.Put(api.Node{Kind: api.KImp, L: a, R: b})
}

// Not answers a -> false (P3.2).
func (t *Table) Not(a int) (int, api.Errno) {
	if !t.made() {
		return 0, api.ErrNil
	}
	// Asked ahead of Bot: false itself might become the row of that number.
	if !t.has(a) {
		return 0, api.ErrForm
	}
	bot, e := t.Bot()
	if e != api.OK {
		return 0, e
	}
	return t.Imp(a, bot)
}
