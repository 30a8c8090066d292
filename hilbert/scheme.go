package hilbert

import (
	"dictum/api"
	"dictum/formula"
)

// form is a formula that may be no row yet: it asks for the rows of its parts, then for its own, and answers that one's number, and whether all of them could be had.
type form func(row func(n api.Node) (int, bool)) (int, bool)

// known is the formula of a row.
func known(id int) form {
	return func(func(api.Node) (int, bool)) (int, bool) { return id, true }
}

func bot() form {
	return func(row func(api.Node) (int, bool)) (int, bool) { return row(api.Node{Kind: api.KBot}) }
}

func joined(k api.Kind, left form, right form) form {
	return func(row func(api.Node) (int, bool)) (int, bool) {
		l, ok := left(row)
		if !ok {
			return 0, false
		}
		r, ok := right(row)
		if !ok {
			return 0, false
		}
		return row(api.Node{Kind: k, L: l, R: r})
	}
}

func and(a form, b form) form { return joined(api.KAnd, a, b) }

func or(a form, b form) form { return joined(api.KOr, a, b) }

func imp(a form, b form) form { return joined(api.KImp, a, b) }

// letters is how many a scheme has at most: A, B and C.
const letters = 3

// scheme is the axiom of a kind for some formulas, in the letters' order.
func scheme(k api.LineKind, ids ...int) form {
	var abc [letters]form
	for i, id := range ids {
		abc[i] = known(id)
	}
	a, b, c := abc[0], abc[1], abc[2]
	switch k {
	case api.LineK:
		return imp(a, imp(b, a))
	case api.LineS:
		return imp(imp(a, imp(b, c)), imp(imp(a, b), imp(a, c)))
	case api.LineFst:
		return imp(and(a, b), a)
	case api.LineSnd:
		return imp(and(a, b), b)
	case api.LinePair:
		return imp(a, imp(b, and(a, b)))
	case api.LineInl:
		return imp(a, or(a, b))
	case api.LineInr:
		return imp(b, or(a, b))
	case api.LineCase:
		return imp(imp(a, c), imp(imp(b, c), imp(or(a, b), c)))
	}
	return imp(bot(), a) // LineBot
}

// ways lead to a place of each letter in a scheme: L to the left part, R to the right one.
var ways = [...][letters]string{
	api.LineK:    {"L", "RL"},
	api.LineS:    {"LL", "LRL", "LRR"},
	api.LineFst:  {"LL", "LR"},
	api.LineSnd:  {"LL", "LR"},
	api.LinePair: {"L", "RL"},
	api.LineInl:  {"RL", "RR"},
	api.LineInr:  {"RL", "RR"},
	api.LineCase: {"LL", "RLL", "LR"},
	api.LineBot:  {"R"},
}

// isAxiom tells whether a formula is the scheme of a kind: it is that of what it has in the letters' places itself, or of nothing.
func isAxiom(t *formula.Table, k api.LineKind, id int) bool {
	if k < api.LineK || k > api.LineBot {
		return false
	}
	var abc []int
	for _, way := range ways[k] {
		abc = append(abc, partOf(t, id, way))
	}
	found, ok := scheme(k, abc...)(t.Find)
	return ok && found == id
}

// partOf answers the part of a formula to which a way leads; any row, if it leads nowhere.
func partOf(t *formula.Table, id int, way string) int {
	for _, side := range way {
		n, _ := t.Node(id)
		id = n.R
		if side == 'L' {
			id = n.L
		}
	}
	return id
}
