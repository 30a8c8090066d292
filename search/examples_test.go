package search_test

import (
	"testing"

	"dictum/api"
	"dictum/formula"
)

// example is the table of the chapter's examples.
func example(t *testing.T) *formula.Table {
	t.Helper()
	return made(t, atom("p"), atom("q"), bot(), join(api.KOr, 0, 1), join(api.KImp, 0, 2), join(api.KOr, 0, 4))
}

// TestExampleProved is the chapter's example 1.
func TestExampleProved(t *testing.T) {
	x := example(t)
	finds(t, x, seq(3, 3), found(proved(seq(3, 3), api.RuleId, 3)))
	finds(t, x, seq(3, 0), found(proved(seq(0, 0), api.RuleId, 0), proved(seq(3, 0), api.RuleOrR1, 3, 0)))
}

// TestExampleRefuted is the chapter's example 2.
func TestExampleRefuted(t *testing.T) {
	finds(t, example(t), seq(5), found(stuck(seq(0)), stuck(seq(2, 0)), refuted(seq(4), api.RuleImpR, 4, 1), stuck(seq(5), 0, 2)))
}

// TestExampleBudget is the chapter's example 3.
func TestExampleBudget(t *testing.T) {
	refuses(t, example(t), seq(5), 3, api.ErrBudget)
}
