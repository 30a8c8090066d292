package rule_test

import (
	"testing"

	"dictum/api"
	"dictum/formula"
)

// example is the table of the chapter's examples.
func example(t *testing.T) *formula.Table {
	t.Helper()
	return made(t, atom("p"), atom("q"), bot(), join(api.KImp, 0, 1), join(api.KAnd, 0, 1), join(api.KOr, 0, 1))
}

// TestExampleOrder is the chapter's example 1.
func TestExampleOrder(t *testing.T) {
	x := example(t)
	s := seq(1, 0, 3)
	applies(t, x, s, api.RuleImpAtom, 3)
	asks(t, x, s, api.RuleImpAtom, 3, []api.Seq{seq(1, 0, 1)})
	applies(t, x, seq(0, 2, 4), api.RuleBot, 2)
	applies(t, x, seq(5), api.RuleStuck, 0)
	chooses(t, x, seq(5), []api.Rule{api.RuleOrR1, api.RuleOrR2}, []int{5, 5})
}

// TestExamplePremises is the chapter's example 2.
func TestExamplePremises(t *testing.T) {
	x := example(t)
	x.Imp(4, 1)
	asks(t, x, seq(0, 6), api.RuleImpAnd, 6, []api.Seq{seq(0, 8)}, join(api.KImp, 1, 1), join(api.KImp, 0, 7))
	refuses(t, x, seq(5), api.RuleImpR, 5, api.ErrRule)
}
