package reduce

import (
	"slices"

	"dictum/api"
	"dictum/formula"
	"dictum/term"
)

// reducer holds a term that is reduced, how many nodes it has, and the rows by which it is.
type reducer struct {
	whole api.Term
	many  int
	rows  []row
}

// begin makes a reducer, unless what each call with a table refuses first is so.
func begin(t *formula.Table, x api.Term) (*reducer, api.Errno) {
	if !made(t) {
		return nil, api.ErrNil
	}
	if e := term.Check(x); e != api.OK {
		return nil, e
	}
	if lacks(t, x) {
		return nil, api.ErrForm
	}
	return &reducer{whole: x, many: term.Size(x), rows: rows(t)}, api.OK
}

// made tells whether a call made the table.
func made(t *formula.Table) bool {
	_, e := t.Below(-1) // no row has that number, but a Table that no call made is told first
	return e != api.ErrNil
}

// lacks tells whether a formula beside a part of the term is none of the table.
func lacks(t *formula.Table, x api.Term) bool {
	if x.Kind == api.TThe {
		if _, ok := t.Node(x.Form); !ok {
			return true
		}
	}
	return slices.ContainsFunc(x.Sub, func(part api.Term) bool { return lacks(t, part) })
}

// own gives the reducer a term in memory of its own, in which parts may be changed.
func (r *reducer) own() { r.whole = copied(r.whole) }

// copied is the same term in new memory.
func copied(x api.Term) api.Term {
	x.Sub = slices.Clone(x.Sub)
	for i, part := range x.Sub {
		x.Sub[i] = copied(part)
	}
	return x
}

// redexes hands visit the way to each part that can be reduced, in their order, from the part at from on, till visit answers false. Who keeps a way copies it.
func (r *reducer) redexes(from []int, visit func(way []int) bool) {
	through(&r.whole, from, func(part *api.Term, way []int) bool {
		return r.fitting(part) == nil || visit(way)
	})
}

// first answers the way to the first part, from the one at from on, that can be reduced, and whether there is one.
func (r *reducer) first(from []int) (found []int, ok bool) {
	r.redexes(from, func(way []int) bool {
		found, ok = slices.Clone(way), true
		return false
	})
	return found, ok
}

// through goes through the parts of a term, from the one at from on: the term itself first, then what is within its first part, its second, and so on. Each is handed to visit with the way there, till visit answers false.
func through(x *api.Term, from []int, visit func(part *api.Term, way []int) bool) {
	var walk func(part *api.Term, way []int, from []int) bool
	walk = func(part *api.Term, way []int, from []int) bool {
		next := 0
		if len(from) > 0 {
			next = from[0] + 1
			if !walk(&part.Sub[from[0]], append(way, from[0]), from[1:]) {
				return false
			}
		} else if !visit(part, way) {
			return false
		}
		for i := next; i < len(part.Sub); i++ {
			if !walk(&part.Sub[i], append(way, i), nil) {
				return false
			}
		}
		return true
	}
	walk(x, nil, from)
}

// fitting answers the row by which a term can be reduced; nil, if there is none. No two rows say anything of one term.
func (r *reducer) fitting(x *api.Term) *row {
	for i := range r.rows {
		if r.rows[i].fits(x) {
			return &r.rows[i]
		}
	}
	return nil
}

// at answers the part to which a way leads; nil, if it leads to none.
func (r *reducer) at(way []int) *api.Term {
	part := &r.whole
	for _, place := range way {
		if place < 0 || place >= len(part.Sub) {
			return nil
		}
		part = &part.Sub[place]
	}
	return part
}

// do reduces the part to which a way leads; what is refused leaves the term as it was.
func (r *reducer) do(way []int) api.Errno {
	part := r.at(way)
	if part == nil {
		return api.ErrRedex
	}
	k := r.fitting(part)
	if k == nil {
		return api.ErrRedex
	}
	other, e := k.becomes(part)
	if e != api.OK {
		return e
	}
	many := r.many - term.Size(*part) + term.Size(other)
	// The levels elsewhere are as many as they were, and those were not too many.
	if many > api.MaxTerm || len(way)+term.Deep(other) > api.MaxDeep {
		return api.ErrLarge
	}
	*part, r.many = other, many
	return api.OK
}
