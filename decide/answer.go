package decide

import (
	"dictum/api"
	"dictum/counter"
	"dictum/force"
	"dictum/formula"
	"dictum/search"
	"dictum/sequent"
	"dictum/translate"
	"dictum/types"
	"dictum/worlds"
)

// root is the world that does not force what a model refutes.
const root = 0

// entailed decides, in a copy of the table, the formula that says that the left side proves the goal.
func entailed(t *formula.Table, left []int, goal int) (api.Answer, error) {
	if _, e := sequent.Of(t, left, goal); e != api.OK { // layer 8 refuses the same tables and numbers, in the same order
		return api.Answer{}, refused(e)
	}
	own := t.Copy()
	id, err := curried(own, left, goal)
	if err != nil {
		return api.Answer{}, err
	}
	return decided(own, id)
}

// curried puts l1 -> (l2 -> .. -> goal), in the order of left: layer 8's Curry would put like ones once, and the lesser number first.
func curried(own *formula.Table, left []int, goal int) (int, error) {
	id := goal
	for i := len(left) - 1; i >= 0; i-- {
		var e api.Errno
		if id, e = own.Imp(left[i], id); e != api.OK {
			return 0, noRoom(api.Fault{Code: e})
		}
	}
	return id, nil
}

// decided decides a formula of a table that is nobody else's, since it gets the search's rows (P21.1).
func decided(own *formula.Table, id int) (api.Answer, error) {
	found, e := search.Run(own, api.Seq{Goal: id}, api.MaxVisits)
	if e != api.OK {
		return api.Answer{}, noRoom(api.Fault{Code: e})
	}
	a := api.Answer{Proved: found.Proved, Rows: own.Rows(), Form: id, Visits: found.Visits}
	last := len(found.Steps) - 1
	if found.Proved {
		a.Term, e = translate.Term(own, found.Steps, last)
	} else {
		a.Model, _, e = counter.Model(own, found.Steps, last)
	}
	if e != api.OK {
		return api.Answer{}, refused(e)
	}
	return a, nil
}

// shown tells what is wrong with an answer; nil, if it shows what it says (P21.5).
func shown(a api.Answer) error {
	t, e := formula.From(a.Rows)
	if e != api.OK {
		return refused(e)
	}
	if _, ok := t.Node(a.Form); !ok {
		return refused(api.ErrForm)
	}
	if a.Proved {
		return refused(types.Check(t, nil, a.Term, a.Form))
	}
	if e := worlds.Check(a.Model); e != api.OK {
		return refused(e)
	}
	if forced, _ := force.At(t, a.Model, root, a.Form); forced {
		return refused(api.ErrModel)
	}
	return nil
}
