package reduce

import (
	"dictum/api"
	"dictum/formula"
)

// beside holds the table of the formulas beside terms, for the rows in which these go along.
type beside struct{ table *formula.Table }

// says tells whether a term has a formula of kind k beside it, and is of one of these kinds itself.
func (b beside) says(x *api.Term, k api.Kind, kinds ...api.TermKind) bool {
	return is(x, api.TThe) && is(&x.Sub[0], kinds...) && b.said(x).Kind == k
}

// said is the row of the formula beside a term.
func (b beside) said(x *api.Term) api.Node {
	n, _ := b.table.Node(x.Form)
	return n
}

// the is a term with a formula beside it.
func the(x api.Term, form int) api.Term {
	return api.Term{Kind: api.TThe, Form: form, Sub: []api.Term{x}}
}

// of answers the part of a formula on that side.
func of(n api.Node, side int) int {
	if side == 0 {
		return n.L
	}
	return n.R
}

func (b beside) isCall(x *api.Term) bool {
	return is(x, api.TApp) && b.says(&x.Sub[0], api.KImp, api.TLam)
}

func (b beside) call(x *api.Term) (api.Term, api.Errno) {
	n := b.said(&x.Sub[0])
	a, e := called(x.Sub[0].Sub[0], the(x.Sub[1], n.L))
	return the(a, n.R), e
}

func (b beside) isHalf(x *api.Term) bool {
	return is(x, api.TFst, api.TSnd) && b.says(&x.Sub[0], api.KAnd, api.TPair)
}

func (b beside) half(x *api.Term) (api.Term, api.Errno) {
	pair := x.Sub[0].Sub[0]
	return the(pair.Sub[side(x)], of(b.said(&x.Sub[0]), side(x))), api.OK
}

func (b beside) isChoice(x *api.Term) bool {
	return is(x, api.TCase) && b.says(&x.Sub[0], api.KOr, api.TInl, api.TInr)
}

func (b beside) choice(x *api.Term) (api.Term, api.Errno) {
	in := &x.Sub[0].Sub[0]
	return chosen(x, side(in), the(in.Sub[0], of(b.said(&x.Sub[0]), side(in))))
}
