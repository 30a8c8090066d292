package term

import (
	"maps"
	"slices"

	"dictum/api"
)

// names is a set of names.
type names map[string]struct{}

func (s names) has(name string) bool {
	_, ok := s[name]
	return ok
}

func (s names) add(name string) { s[name] = struct{}{} }

// binding answers where in a term the name stands that is bound within its part i; nil, if none is.
func binding(x *api.Term, i int) *string {
	switch {
	case x.Kind == api.TLam, i == 1 && (x.Kind == api.TLet || x.Kind == api.TCase):
		return &x.Name
	case i == 2 && x.Kind == api.TCase:
		return &x.Other
	}
	return nil
}

// Free answers the free names (P12.2).
func Free(x api.Term) ([]string, api.Errno) {
	if e := Check(x); e != api.OK {
		return nil, e
	}
	return slices.Sorted(maps.Keys(freeIn(x))), api.OK
}

// freeIn are the names that are free in a term.
func freeIn(x api.Term) names {
	g := gathering{free: names{}, bound: map[string]int{}}
	g.walk(x)
	return g.free
}

// gathering gathers free names: those that were met, and of each name how many bindings of it stand round the place.
type gathering struct {
	free  names
	bound map[string]int
}

func (g gathering) walk(x api.Term) {
	if x.Kind == api.TVar && g.bound[x.Name] == 0 {
		g.free.add(x.Name)
	}
	for i, part := range x.Sub {
		name := binding(&x, i)
		if name == nil {
			g.walk(part)
			continue
		}
		g.bound[*name]++
		g.walk(part)
		g.bound[*name]--
	}
}

// Alpha tells whether two terms are the same but for bound names (P12.3).
func Alpha(a api.Term, b api.Term) bool {
	if Check(a) != api.OK || Check(b) != api.OK {
		return false
	}
	p := pairing{left: map[string]int{}, right: map[string]int{}}
	return p.same(a, b)
}

// pairing holds two terms against each other: what each name stands for in either of them, as the number of its binding from outside in, or 0, if it is free; and how many bindings stand round the place.
type pairing struct {
	left  map[string]int
	right map[string]int
	many  int
}

func (p pairing) same(a api.Term, b api.Term) bool {
	if a.Kind != b.Kind || a.Form != b.Form {
		return false
	}
	if a.Kind == api.TVar {
		l, r := p.left[a.Name], p.right[b.Name]
		return l == r && (l > 0 || a.Name == b.Name)
	}
	for i := range a.Sub {
		if !p.samePart(a, b, i) {
			return false
		}
	}
	return true
}

func (p pairing) samePart(a api.Term, b api.Term, i int) bool {
	if l, r := binding(&a, i), binding(&b, i); l != nil {
		p.many++
		defer bind(p.left, *l, p.many)()
		defer bind(p.right, *r, p.many)()
	}
	return p.same(a.Sub[i], b.Sub[i])
}

// bind lets a name stand for the binding of that number, and answers what puts back what it stood for.
func bind(stands map[string]int, name string, number int) func() {
	was := stands[name]
	stands[name] = number
	return func() { stands[name] = was }
}
