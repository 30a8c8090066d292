package rule_test

import (
	"math"
	"slices"
	"testing"

	"dictum/api"
	"dictum/formula"
	"dictum/rule"
)

// refusesAll asks for that error of every call, beside zeros and nothing.
func refusesAll(t *testing.T, x *formula.Table, s api.Seq, k api.Rule, main int, want api.Errno) {
	t.Helper()
	if got, id, e := rule.Apply(x, s); got != 0 || id != 0 || e != want {
		t.Errorf("Apply: rule %d of %d, error %d, not error %d", got, id, e, want)
	}
	if got, ids, e := rule.Choices(x, s); len(got) != 0 || len(ids) != 0 || e != want {
		t.Errorf("Choices: %v of %v, error %d, not error %d", got, ids, e, want)
	}
	if ok, e := rule.Fits(x, s, k, main); ok || e != want {
		t.Errorf("Fits: %v, error %d, not error %d", ok, e, want)
	}
	if l, e := rule.Premises(x, s, k, main); len(l) != 0 || e != want {
		t.Errorf("Premises: %v, error %d, not error %d", l, e, want)
	}
}

// noTables are tables that no call made.
func noTables() []*formula.Table { return []*formula.Table{nil, {}, new(formula.Table)} }

// TestNoTable: a table that no call made is ErrNil, ahead of all else that is wrong, and stays none.
func TestNoTable(t *testing.T) {
	for _, x := range noTables() {
		for _, s := range []api.Seq{{}, seq(0, 0), seq(-1), seq(5, 1023), seq(math.MaxInt), seq(math.MinInt, 0)} {
			refusesAll(t, x, s, api.RuleId, 0, api.ErrNil)
			refusesAll(t, x, s, api.RuleStuck, -1, api.ErrNil)
			refusesAll(t, x, s, 0, math.MaxInt, api.ErrNil)
		}
		if x.Len() != 0 {
			t.Error("a table that no call made has rows")
		}
		if _, e := x.Bot(); e != api.ErrNil {
			t.Errorf("a table that no call made takes a row: error %d", e)
		}
	}
}

// TestNoFormula: a number of the left side, or the goal, that is no row's is ErrForm, ahead of what the rule is and of what its main is.
func TestNoFormula(t *testing.T) {
	for _, many := range []int{6, 63, 64, 65, 127, 128, 1000, 1023, 1024} {
		x := filled(t, example(t).Rows(), many)
		rows := x.Rows()
		for _, goal := range noForms(many) {
			refusesAll(t, x, seq(goal), api.RuleImpR, goal, api.ErrForm)
			refusesAll(t, x, seq(goal, 2, 4), api.RuleBot, 2, api.ErrForm) // a rule that fits with what stands on the left
			refusesAll(t, x, seq(goal, 0), 99, -1, api.ErrForm)
		}
		for left := many; left < api.MaxForms; left += 1 + left/5 {
			refusesAll(t, x, seq(0, left), api.RuleId, 0, api.ErrForm)
			refusesAll(t, x, seq(0, 0, left), api.RuleId, 0, api.ErrForm)
			refusesAll(t, x, seq(0, 2, 4, left), api.RuleAndL, 4, api.ErrForm)
			refusesAll(t, x, seq(5, left), api.RuleOrR1, 5, api.ErrForm)
			refusesAll(t, x, seq(5, left), api.RuleStuck, left, api.ErrForm)
		}
		if many < api.MaxForms {
			refusesAll(t, x, seq(0, api.MaxForms-1), api.RuleId, 0, api.ErrForm)
		}
		same(t, x, rows)
	}
}

// TestLastFormula: the last row's number is a formula's, on both sides.
func TestLastFormula(t *testing.T) {
	for _, many := range []int{6, 63, 64, 65, 128, 1023, 1024} {
		x := filled(t, example(t).Rows()[:5], many)
		last := many - 1
		applies(t, x, seq(last, last), api.RuleId, last)
		applies(t, x, seq(last), api.RuleStuck, 0)
		applies(t, x, seq(0, last), api.RuleStuck, 0)
		fits(t, x, seq(last, last), api.RuleId, last, true)
		asks(t, x, seq(last, 4), api.RuleAndL, 4, []api.Seq{seq(last, 0, 1)})
		asks(t, x, seq(4, last), api.RuleAndR, 4, []api.Seq{seq(0, last), seq(1, last)})
	}
}

// TestNoMain: a main that is no row's fits with no rule, and so it is ErrRule.
func TestNoMain(t *testing.T) {
	for _, many := range []int{6, 64, 1024} {
		x := filled(t, example(t).Rows(), many)
		for _, main := range noForms(many) {
			for _, k := range rules() {
				for _, s := range []api.Seq{{}, seq(5), seq(2, 2), seq(3, 0, 1, 2, 3, 4, 5)} {
					fits(t, x, s, k, main, false)
					refuses(t, x, s, k, main, api.ErrRule)
				}
			}
		}
	}
}

// TestNoRule: RuleStuck and numbers that are no rule's fit nothing, whatever the sequent is.
func TestNoRule(t *testing.T) {
	rows := shapes()
	x := made(t, rows...)
	all := make([]int, len(rows))
	for id := range all {
		all[id] = id
	}
	for _, k := range []api.Rule{api.RuleStuck, 0, -1, -13, 15, 16, 27, 64, 1 << 32, 1<<32 + 1, math.MaxInt, math.MinInt, math.MinInt + 1} {
		for main := range rows {
			for _, s := range []api.Seq{seq(main), seq(main, main), seq(main, all...), seq(0, main)} {
				fits(t, x, s, k, main, false)
				refuses(t, x, s, k, main, api.ErrRule)
			}
		}
	}
	fits(t, x, seq(0), api.RuleStuck, 0, false) // though it is the rule that Apply answers of this sequent
	refuses(t, x, seq(0), api.RuleStuck, 0, api.ErrRule)
}

// TestRuleAheadOfRoom: ErrRule is told ahead of ErrForms.
func TestRuleAheadOfRoom(t *testing.T) {
	x := formula.New()
	main := read(t, x, "(p & q) -> p")
	x = filled(t, x.Rows(), api.MaxForms)
	refuses(t, x, seq(0, main), api.RuleImpAnd, main, api.ErrForms)
	refuses(t, x, seq(0), api.RuleImpAnd, main, api.ErrRule)
	refuses(t, x, seq(0, main), api.RuleImpOr, main, api.ErrRule)
	refuses(t, x, seq(0, main), api.RuleImpAnd, 0, api.ErrRule)
}

// TestNothingKept: the same call answers the same again, whatever was asked of it and of other tables meanwhile, and the lists of an answer are the caller's own.
func TestNothingKept(t *testing.T) {
	chance := newChance(3)
	for range 50 {
		x := made(t, someRows(chance, 20, 20, 3)...)
		y := made(t, someRows(chance, 20, 20, 3)...)
		s := someSeq(chance, 20, 6)
		k, main, _ := rule.Apply(x, s)
		rules, mains, _ := rule.Choices(x, s)
		if len(rules) > 0 {
			k, main = rules[0], mains[0]
		}
		premises, _ := rule.Premises(x, s, k, main)
		keptRules, keptMains, kept := slices.Clone(rules), slices.Clone(mains), slices.Clone(premises)
		for i := range rules {
			rules[i], mains[i] = -1, -1
		}
		for i := range premises {
			premises[i] = api.Seq{Goal: -1}
		}
		rule.Choices(y, s)
		rule.Premises(y, s, k, main)
		rules, mains, _ = rule.Choices(x, s)
		premises, _ = rule.Premises(x, s, k, main)
		if !slices.Equal(rules, keptRules) || !slices.Equal(mains, keptMains) || !slices.Equal(premises, kept) {
			t.Fatalf("%v |- %d of %v: %v of %v, %v; and first %v of %v, %v", leftOf(s), s.Goal, x.Rows(), rules, mains, premises, keptRules, keptMains, kept)
		}
	}
}
