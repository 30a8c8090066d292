package translate

import (
	"dictum/api"
	"dictum/formula"
)

// frame answers the term of a step that is proved, with gaps where the terms of its kids stand (P15.3).
func frame(t *formula.Table, step api.Step) api.Term {
	m := step.Main
	n, _ := t.Node(m)
	a, b := n.L, n.R
	switch step.Rule {
	case api.RuleBot:
		return of(api.TAbort, name(m))
	case api.RuleId:
		return name(m)
	case api.RuleAndL:
		return let(a, of(api.TFst, name(m)), let(b, of(api.TSnd, name(m)), gap(0)))
	case api.RuleImpAtom:
		return let(b, call(m, name(a)), gap(0))
	case api.RuleImpAnd:
		return impAnd(t, m)
	case api.RuleImpOr:
		return impOr(t, m)
	case api.RuleImpR:
		return fun(gap(0), a)
	case api.RuleAndR:
		return of(api.TPair, gap(0), gap(1))
	case api.RuleOrL:
		return branch(m, a, b)
	case api.RuleOrR1:
		return of(api.TInl, gap(0))
	case api.RuleOrR2:
		return of(api.TInr, gap(0))
	case api.RuleImpImp:
		return impImp(t, m)
	}
	return gap(0) // RuleImpBot, whose formula no term needs
}

// letters answers the C, D and B of an implication whose left part is joined of C and D.
func letters(t *formula.Table, m int) (c, d, b int) {
	n, _ := t.Node(m)
	given, _ := t.Node(n.L)
	return given.L, given.R, n.R
}

// imp answers the number of a -> b, which is a row, since it stands in the sequent of a step that is right, or in a formula there.
func imp(t *formula.Table, a int, b int) int {
	id, _ := t.Find(api.Node{Kind: api.KImp, L: a, R: b})
	return id
}

func impAnd(t *formula.Table, m int) api.Term {
	c, d, b := letters(t, m)
	f := imp(t, c, imp(t, d, b))
	return let(f, the(f, fun(call(m, of(api.TPair, name(c), name(d))), c, d)), gap(0))
}

func impOr(t *formula.Table, m int) api.Term {
	c, d, b := letters(t, m)
	f, g := imp(t, c, b), imp(t, d, b)
	first := the(f, fun(call(m, of(api.TInl, name(c))), c))
	second := the(g, fun(call(m, of(api.TInr, name(d))), d))
	return let(f, first, let(g, second, gap(0)))
}

func impImp(t *formula.Table, m int) api.Term {
	c, d, b := letters(t, m)
	f := imp(t, d, b)
	given := let(f, the(f, fun(call(m, fun(name(d), c)), d)), gap(0))
	return let(b, call(m, given), gap(1))
}
