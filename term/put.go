package term

import (
	"slices"
	"strconv"

	"dictum/api"
	"dictum/formula"
)

// Put puts a term in the place of a name (P12.4).
func Put(x api.Term, name string, y api.Term) (api.Term, api.Errno) {
	if e := Check(x); e != api.OK {
		return api.Term{}, e
	}
	if e := Check(y); e != api.OK {
		return api.Term{}, e
	}
	if !formula.Word(name) {
		return api.Term{}, api.ErrAtom
	}
	if outgrows(x, name, y) {
		return api.Term{}, api.ErrLarge
	}
	return put(x, []placing{{name: name, term: y, free: freeIn(y)}}), api.OK
}

// outgrows tells whether x would be too large with y in each place where the name is free. That is counted ahead, since what would come may be larger than memory.
func outgrows(x api.Term, name string, y api.Term) bool {
	p := places{name: name}
	p.walk(x, 1)
	return Size(x)+p.many*(Size(y)-1) > api.MaxTerm || p.deepest-1+Deep(y) > api.MaxDeep
}

// places are those where a name is free: how many, and the level of the deepest one, from 1 on.
type places struct {
	name    string
	many    int
	deepest int
}

func (p *places) walk(x api.Term, level int) {
	if x.Kind == api.TVar && x.Name == p.name {
		p.many++
		p.deepest = max(p.deepest, level)
	}
	for i, part := range x.Sub {
		if name := binding(&x, i); name == nil || *name != p.name {
			p.walk(part, level+1)
		}
	}
}

// placing is a term that is to be put in the place of a free name.
type placing struct {
	name string
	term api.Term
	free names // in the term
}

// renaming puts a name in the place of another one.
func renaming(name string, other string) placing {
	return placing{name: name, term: api.Term{Kind: api.TVar, Name: other}, free: names{other: {}}}
}

// put makes a term anew with all of todo put in, one behind the other. They go down together, since one by one a part would be gone through as often as bindings round it are renamed.
func put(x api.Term, todo []placing) api.Term {
	if x.Kind == api.TVar {
		return copied(placed(x, todo))
	}
	x.Sub = slices.Clone(x.Sub)
	for i, part := range x.Sub {
		inner := todo
		if name := binding(&x, i); name != nil {
			*name, inner = under(*name, part, todo)
		}
		x.Sub[i] = put(part, inner)
	}
	return x
}

// placed answers what comes in the place of a name. Only the last of todo, what Put was handed, may be no name itself.
func placed(x api.Term, todo []placing) api.Term {
	for _, p := range todo {
		if x.Name == p.name {
			x = p.term
		}
	}
	return x
}

// copied is the same term in new memory.
func copied(x api.Term) api.Term {
	x.Sub = slices.Clone(x.Sub)
	for i, part := range x.Sub {
		x.Sub[i] = copied(part)
	}
	return x
}

// under takes todo past the binding of a name within a part: the name that is bound there then, and what is to be put in the part.
func under(name string, part api.Term, todo []placing) (string, []placing) {
	if !slices.ContainsFunc(todo, func(p placing) bool { return p.free.has(name) }) {
		return name, without(todo, name)
	}
	w := within{bound: name, free: freeIn(part)}
	for _, p := range todo {
		w.pass(p)
	}
	return w.bound, w.todo
}

// without answers those of todo that are not for that name.
func without(todo []placing, name string) []placing {
	same := func(p placing) bool { return p.name == name }
	if !slices.ContainsFunc(todo, same) {
		return todo
	}
	return slices.DeleteFunc(slices.Clone(todo), same)
}

// within is a part in which a name is bound: this name, what is to be put in the part, and what is free in it behind that.
type within struct {
	bound string
	todo  []placing
	free  names
}

// pass takes a placing past the binding, which is renamed if the name would be bound in what is put (P12.4).
func (w *within) pass(p placing) {
	if p.name == w.bound || !w.free.has(p.name) {
		return
	}
	if p.free.has(w.bound) {
		other := unused(p.free, w.free) // the name in whose place p is put is free in the part
		w.add(renaming(w.bound, other))
		w.bound = other
	}
	w.add(p)
}

// add puts a placing behind those that are to be put in the part.
func (w *within) add(p placing) {
	if !w.free.has(p.name) {
		return
	}
	w.todo = append(w.todo, p)
	delete(w.free, p.name)
	w.free.add(p.term.Name) // of a renaming; behind what Put was handed, the last of all, nobody asks
}

// unused answers the first of v0, v1, v2, .. that is in neither of two sets.
func unused(a names, b names) string {
	for i := 0; ; i++ {
		name := "v" + strconv.Itoa(i)
		if !a.has(name) && !b.has(name) {
			return name
		}
	}
}
