package reduce

import (
	"slices"

	"dictum/api"
	"dictum/formula"
	"dictum/term"
)

// row is one of the table's: whether it says anything of a term, and what that becomes, which may share memory with it.
type row struct {
	fits    func(x *api.Term) bool
	becomes func(x *api.Term) (api.Term, api.Errno)
}

// rows makes those of the table, in its order (P14.1).
func rows(t *formula.Table) []row {
	b := beside{t}
	return []row{
		{isCall, call},
		{b.isCall, b.call},
		{isHalf, half},
		{b.isHalf, b.half},
		{isChoice, choice},
		{b.isChoice, b.choice},
		{isLet, let},
		{isNeedless, inside},
	}
}

// is tells whether a term is of one of these kinds.
func is(x *api.Term, kinds ...api.TermKind) bool { return slices.Contains(kinds, x.Kind) }

func isCall(x *api.Term) bool { return is(x, api.TApp) && is(&x.Sub[0], api.TLam) }

func call(x *api.Term) (api.Term, api.Errno) { return called(x.Sub[0], x.Sub[1]) }

// called is what a function becomes of an argument.
func called(f api.Term, b api.Term) (api.Term, api.Errno) { return term.Put(f.Sub[0], f.Name, b) }

func isHalf(x *api.Term) bool { return is(x, api.TFst, api.TSnd) && is(&x.Sub[0], api.TPair) }

func half(x *api.Term) (api.Term, api.Errno) { return x.Sub[0].Sub[side(x)], api.OK }

// side answers the place of the part that is meant: 0 of TFst and TInl, 1 of TSnd and TInr.
func side(x *api.Term) int {
	if is(x, api.TFst, api.TInl) {
		return 0
	}
	return 1
}

func isChoice(x *api.Term) bool { return is(x, api.TCase) && is(&x.Sub[0], api.TInl, api.TInr) }

func choice(x *api.Term) (api.Term, api.Errno) {
	return chosen(x, side(&x.Sub[0]), x.Sub[0].Sub[0])
}

// chosen is the branch of that side, with a in the place of its name.
func chosen(x *api.Term, side int, a api.Term) (api.Term, api.Errno) {
	if side == 0 {
		return term.Put(x.Sub[1], x.Name, a)
	}
	return term.Put(x.Sub[2], x.Other, a)
}

func isLet(x *api.Term) bool { return is(x, api.TLet) }

func let(x *api.Term) (api.Term, api.Errno) { return term.Put(x.Sub[1], x.Name, x.Sub[0]) }

// isNeedless tells whether a formula stands beside what layer 13 tells of itself.
func isNeedless(x *api.Term) bool {
	return is(x, api.TThe) && is(&x.Sub[0], api.TVar, api.TApp, api.TFst, api.TSnd, api.TThe)
}

func inside(x *api.Term) (api.Term, api.Errno) { return x.Sub[0], api.OK }
