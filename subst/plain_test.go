package subst_test

import (
	"slices"

	"dictum/api"
)

// plain is a table as the chapters' words say it: a list that is gone through from its beginning.
type plain struct{ rows []api.Node }

func (p *plain) put(n api.Node) (int, bool) {
	if id := slices.Index(p.rows, n); id >= 0 {
		return id, true
	}
	if len(p.rows) == api.MaxForms {
		return 0, false
	}
	p.rows = append(p.rows, n)
	return len(p.rows) - 1, true
}

func (p *plain) below(id int) []int {
	l := []int{id}
	for at := 0; at < len(l); at++ {
		if n := p.rows[l[at]]; n.Kind >= api.KAnd {
			for _, part := range []int{n.L, n.R} {
				if !slices.Contains(l, part) {
					l = append(l, part)
				}
			}
		}
	}
	slices.Sort(l)
	return l
}

// anew is P7.1 by its words; turned tells the images that are not those of P7.1, by a formula's number, its kind and its parts' images.
func (p *plain) anew(id int, turned func(id int, kind api.Kind, l, r int) (image int, is, ok bool)) (int, api.Errno) {
	before := slices.Clone(p.rows)
	image := make([]int, len(p.rows))
	for _, part := range p.below(id) {
		n := p.rows[part]
		l, r := n.L, n.R
		if n.Kind >= api.KAnd {
			l, r = image[n.L], image[n.R]
		}
		to, is, ok := turned(part, n.Kind, l, r)
		switch {
		case is:
		case n.Kind >= api.KAnd:
			to, ok = p.put(join(n.Kind, l, r))
		default:
			to, ok = part, true
		}
		if !ok {
			p.rows = before
			return 0, api.ErrForms
		}
		image[part] = to
	}
	return image[id], api.OK
}

func (p *plain) putFor(id int, by []api.Hyp) (int, api.Errno) {
	return p.anew(id, func(id int, kind api.Kind, _, _ int) (int, bool, bool) {
		for _, h := range by {
			if kind == api.KAtom && p.rows[id].Name == h.Name {
				return h.Form, true, true
			}
		}
		return 0, false, false
	})
}

func (p *plain) replace(id, old, by int) (int, api.Errno) {
	return p.anew(id, func(id int, _ api.Kind, _, _ int) (int, bool, bool) { return by, id == old, true })
}

// simple tries the chapter's rows one by one, as they stand there.
func (p *plain) simple(id int) (int, api.Errno) {
	isBot := func(id int) bool { return p.rows[id] == bot() }
	isTop := func(id int) bool {
		n := p.rows[id]
		return n.Kind == api.KImp && isBot(n.L) && isBot(n.R)
	}
	type row struct {
		kind api.Kind
		fits bool
		to   func() (int, bool)
	}
	return p.anew(id, func(_ int, kind api.Kind, l, r int) (int, bool, bool) {
		if kind < api.KAnd {
			return 0, false, false
		}
		left := func() (int, bool) { return l, true }
		right := func() (int, bool) { return r, true }
		bottom := func() (int, bool) { return p.put(bot()) }
		top := func() (int, bool) {
			b, ok := p.put(bot())
			if !ok {
				return 0, false
			}
			return p.put(join(api.KImp, b, b))
		}
		for _, x := range []row{
			{api.KAnd, isBot(l) || isBot(r), bottom}, {api.KAnd, isTop(l), right}, {api.KAnd, isTop(r), left}, {api.KAnd, l == r, left},
			{api.KOr, isTop(l) || isTop(r), top}, {api.KOr, isBot(l), right}, {api.KOr, isBot(r), left}, {api.KOr, l == r, left},
			{api.KImp, isBot(l) || isTop(r) || l == r, top}, {api.KImp, isTop(l), right},
		} {
			if x.kind == kind && x.fits {
				to, ok := x.to()
				return to, true, ok
			}
		}
		return 0, false, false
	})
}

// tree is a formula with parts of its own, written with all its parentheses: nothing is shared, and nothing is a table's.
func tree(rows []api.Node, id int, atoms func(name string) string) string {
	switch n := rows[id]; n.Kind {
	case api.KAtom:
		return atoms(n.Name)
	case api.KBot:
		return "false"
	default:
		sign := map[api.Kind]string{api.KAnd: "&", api.KOr: "|", api.KImp: "->"}[n.Kind]
		return "(" + tree(rows, n.L, atoms) + sign + tree(rows, n.R, atoms) + ")"
	}
}

func self(name string) string { return name }

// told is the tree of a formula with its atoms turned as by says.
func told(rows []api.Node, id int, by []api.Hyp) string {
	return tree(rows, id, func(name string) string {
		for _, h := range by {
			if h.Name == name {
				return tree(rows, h.Form, self)
			}
		}
		return name
	})
}

func (p *plain) atoms(id int) []string {
	var l []string
	for _, part := range p.below(id) {
		if n := p.rows[part]; n.Kind == api.KAtom {
			l = append(l, n.Name)
		}
	}
	slices.Sort(l)
	return l
}

// match tries all formulas of the table for all atoms of the pattern: what a pattern becomes is made of what is put in, so these are enough.
func (p *plain) match(pattern, id int) ([]api.Hyp, bool) {
	want := tree(p.rows, id, self)
	names := p.atoms(pattern)
	by := make([]api.Hyp, len(names))
	var try func(at int) bool
	try = func(at int) bool {
		if at == len(names) {
			return told(p.rows, pattern, by) == want
		}
		for form := range p.rows {
			by[at] = api.Hyp{Name: names[at], Form: form}
			if try(at + 1) {
				return true
			}
		}
		return false
	}
	if !try(0) {
		return nil, false
	}
	return by, true
}
