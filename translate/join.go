package translate

import "dictum/api"

// gapKind is the kind of no term.
const gapKind api.TermKind = 0

// gap stands in a frame for the term of the kid in that place.
func gap(place int) api.Term { return api.Term{Kind: gapKind, Form: place} }

// of puts parts together to a term of a kind without names.
func of(k api.TermKind, parts ...api.Term) api.Term { return api.Term{Kind: k, Sub: parts} }

// name is the variable of a formula.
func name(id int) api.Term { return api.Term{Kind: api.TVar, Name: Name(id)} }

// call is the variable of a formula with an argument.
func call(id int, argument api.Term) api.Term { return of(api.TApp, name(id), argument) }

// fun is the function of variables, the first one outermost.
func fun(body api.Term, ids ...int) api.Term {
	for i := len(ids) - 1; i >= 0; i-- {
		body = of(api.TLam, body)
		body.Name = Name(ids[i])
	}
	return body
}

// let gives the variable of a formula a term within another one.
func let(id int, given api.Term, body api.Term) api.Term {
	x := of(api.TLet, given, body)
	x.Name = Name(id)
	return x
}

// the is a term with a formula beside it.
func the(form int, x api.Term) api.Term {
	x = of(api.TThe, x)
	x.Form = form
	return x
}

// branch is the case of a disjunction's variable, with gaps for both branches.
func branch(id int, first int, second int) api.Term {
	x := of(api.TCase, name(id), gap(0), gap(1))
	x.Name, x.Other = Name(first), Name(second)
	return x
}
