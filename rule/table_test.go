package rule_test

import (
	"slices"
	"testing"

	"dictum/api"
	"dictum/formula"
	"dictum/rule"
	"dictum/sequent"
)

// tableCase is a line of P9.1's table, with a sequent and its premises as texts.
type tableCase struct {
	rule     api.Rule
	main     string
	from     string
	premises []string
}

func tableCases() []tableCase {
	return []tableCase{
		{api.RuleBot, "false", "p, false |- q", nil},
		{api.RuleBot, "false", "false |- false", nil},
		{api.RuleId, "p", "p, q |- p", nil},
		{api.RuleId, "p & q", "p & q |- p & q", nil},
		{api.RuleId, "false", "false |- false", nil},
		{api.RuleId, "p -> q", "p -> q |- p -> q", nil},
		{api.RuleAndL, "p & q", "r, p & q |- s", []string{"r, p, q |- s"}},
		{api.RuleAndL, "p & q", "p, p & q |- p & q", []string{"p, q |- p & q"}},
		{api.RuleAndL, "p & p", "p & p |- s", []string{"p |- s"}},
		{api.RuleAndL, "p & (q & r)", "q & r, p & (q & r) |- s", []string{"p, q & r |- s"}},
		{api.RuleImpAtom, "p -> q", "p, p -> q |- s", []string{"p, q |- s"}},
		{api.RuleImpAtom, "p -> p", "p, p -> p |- s", []string{"p |- s"}},
		{api.RuleImpAtom, "p -> (p -> q)", "p, p -> (p -> q) |- s", []string{"p, p -> q |- s"}},
		{api.RuleImpAtom, "p -> false", "p, p -> false |- s", []string{"p, false |- s"}},
		{api.RuleImpAtom, "p -> q", "p, q, p -> q |- p -> q", []string{"p, q |- p -> q"}},
		{api.RuleImpBot, "false -> q", "p, false -> q |- s", []string{"p |- s"}},
		{api.RuleImpBot, "false -> false", "true |- s", []string{"|- s"}},
		{api.RuleImpBot, "false -> q", "false, false -> q |- s", []string{"false |- s"}},
		{api.RuleImpAnd, "p & q -> r", "s, p & q -> r |- p", []string{"s, p -> (q -> r) |- p"}},
		{api.RuleImpAnd, "p & p -> p", "p & p -> p |- s", []string{"p -> (p -> p) |- s"}},
		{api.RuleImpAnd, "p & q -> r", "p -> (q -> r), p & q -> r |- s", []string{"p -> (q -> r) |- s"}},
		{api.RuleImpOr, "p | q -> r", "s, p | q -> r |- p", []string{"s, p -> r, q -> r |- p"}},
		{api.RuleImpOr, "p | p -> r", "p | p -> r |- s", []string{"p -> r |- s"}},
		{api.RuleImpOr, "p | q -> r", "p -> r, p | q -> r |- s", []string{"p -> r, q -> r |- s"}},
		{api.RuleImpR, "p -> q", "r |- p -> q", []string{"r, p |- q"}},
		{api.RuleImpR, "p -> q", "p |- p -> q", []string{"p |- q"}},
		{api.RuleImpR, "p -> q", "p -> q |- p -> q", []string{"p, p -> q |- q"}},
		{api.RuleImpR, "false -> q", "|- false -> q", []string{"false |- q"}},
		{api.RuleImpR, "(p -> q) -> r", "|- (p -> q) -> r", []string{"p -> q |- r"}},
		{api.RuleAndR, "p & q", "r |- p & q", []string{"r |- p", "r |- q"}},
		{api.RuleAndR, "p & p", "r |- p & p", []string{"r |- p", "r |- p"}},
		{api.RuleAndR, "p & q", "p & q |- p & q", []string{"p & q |- p", "p & q |- q"}},
		{api.RuleOrL, "p | q", "r, p | q |- s", []string{"r, p |- s", "r, q |- s"}},
		{api.RuleOrL, "p | q", "p, p | q |- p | q", []string{"p |- p | q", "p, q |- p | q"}},
		{api.RuleOrL, "p | p", "p | p |- s", []string{"p |- s", "p |- s"}},
		{api.RuleOrR1, "p | q", "r |- p | q", []string{"r |- p"}},
		{api.RuleOrR1, "p | q", "p | q |- p | q", []string{"p | q |- p"}},
		{api.RuleOrR2, "p | q", "r |- p | q", []string{"r |- q"}},
		{api.RuleOrR2, "p | q", "p | q |- p | q", []string{"p | q |- q"}},
		{api.RuleImpImp, "(p -> q) -> r", "s, (p -> q) -> r |- p", []string{"s, q -> r |- p -> q", "s, r |- p"}},
		{api.RuleImpImp, "(p -> q) -> r", "(p -> q) -> r |- (p -> q) -> r", []string{"q -> r |- p -> q", "r |- (p -> q) -> r"}},
		{api.RuleImpImp, "~~p", "~~p |- p", []string{"false -> false |- ~p", "false |- p"}},
		{api.RuleImpImp, "(p -> q) -> r", "r, q -> r, (p -> q) -> r |- s", []string{"r, q -> r |- p -> q", "r, q -> r |- s"}},
	}
}

// readSeq is a sequent's text, read.
func readSeq(t *testing.T, x *formula.Table, text string) api.Seq {
	t.Helper()
	s, f := sequent.Parse(x, text)
	if f.Code != api.OK {
		t.Fatalf("%q: error %d at %v", text, f.Code, f.At)
	}
	return s
}

// TestTable: P9.1 and P9.2, each line of the table.
func TestTable(t *testing.T) {
	for _, c := range tableCases() {
		x := formula.New()
		s := readSeq(t, x, c.from)
		main := read(t, x, c.main)
		fits(t, x, s, c.rule, main, true)
		got, e := rule.Premises(x, s, c.rule, main)
		var want []api.Seq
		for _, text := range c.premises {
			want = append(want, readSeq(t, x, text))
		}
		if !slices.Equal(got, want) || e != api.OK {
			t.Errorf("rule %d of %s in %s: %v, error %d, not %v", c.rule, c.main, c.from, got, e, want)
		}
	}
}

// TestNotInTable: P9.1, formulas that are nearly those of a line.
func TestNotInTable(t *testing.T) {
	for _, c := range []struct {
		rule api.Rule
		main string
		from string
	}{
		{api.RuleBot, "false", "p |- false"},            // not in left
		{api.RuleBot, "p", "p, false |- q"},             // false is there, but this is not it
		{api.RuleBot, "true", "true |- q"},              // only made of false
		{api.RuleId, "p", "p |- q"},                     // in left, not the goal
		{api.RuleId, "q", "p |- q"},                     // the goal, not in left
		{api.RuleId, "r", "p |- q"},                     // neither
		{api.RuleId, "p", "p, q |- q"},                  // another one is both
		{api.RuleAndL, "p & q", "p, q |- p & q"},        // not in left
		{api.RuleAndL, "p | q", "p | q |- p"},           // an or
		{api.RuleAndL, "p & q -> r", "p & q -> r |- p"}, // only made of an and
		{api.RuleImpAtom, "p -> q", "p -> q |- q"},      // p is not in left
		{api.RuleImpAtom, "p -> q", "p -> q |- p"},      // p is the goal alone
		{api.RuleImpAtom, "p -> q", "q, p -> q |- q"},   // q is in left
		{api.RuleImpAtom, "p -> q", "p |- p -> q"},      // not in left
		{api.RuleImpAtom, "p & q", "p, p & q |- q"},     // an and
		{api.RuleImpAtom, "false -> q", "false, false -> q |- q"},
		{api.RuleImpAtom, "p & q -> q", "p & q, p & q -> q |- q"}, // no atom
		{api.RuleImpAtom, "(p -> q) -> q", "p, p -> q, (p -> q) -> q |- q"},
		{api.RuleImpBot, "false -> q", "p |- false -> q"},
		{api.RuleImpBot, "p -> false", "p -> false |- q"},
		{api.RuleImpBot, "false | q", "false | q |- q"},
		{api.RuleImpAnd, "p & q -> r", "|- p & q -> r"},
		{api.RuleImpAnd, "p | q -> r", "p | q -> r |- r"},
		{api.RuleImpAnd, "p -> q & r", "p -> q & r |- r"},
		{api.RuleImpAnd, "(p & q) & r", "(p & q) & r |- r"},
		{api.RuleImpOr, "p | q -> r", "|- p | q -> r"},
		{api.RuleImpOr, "p & q -> r", "p & q -> r |- r"},
		{api.RuleImpOr, "p -> q | r", "p -> q | r |- r"},
		{api.RuleImpOr, "(p | q) | r", "(p | q) | r |- r"},
		{api.RuleImpR, "p -> q", "p -> q |- q"},
		{api.RuleImpR, "p & q", "|- p & q"},
		{api.RuleImpR, "p", "|- p"},
		{api.RuleImpR, "q -> r", "|- p -> (q -> r)"},
		{api.RuleAndR, "p & q", "p & q |- q"},
		{api.RuleAndR, "p | q", "|- p | q"},
		{api.RuleOrL, "p | q", "|- p | q"},
		{api.RuleOrL, "p & q", "p & q |- q"},
		{api.RuleOrL, "p | q -> r", "p | q -> r |- q"},
		{api.RuleOrR1, "p | q", "p | q |- q"},
		{api.RuleOrR1, "p & q", "|- p & q"},
		{api.RuleOrR2, "p | q", "p | q |- q"},
		{api.RuleOrR2, "p & q", "|- p & q"},
		{api.RuleImpImp, "(p -> q) -> r", "|- (p -> q) -> r"},
		{api.RuleImpImp, "p -> (q -> r)", "p -> (q -> r) |- r"},
		{api.RuleImpImp, "(p -> q) & r", "(p -> q) & r |- r"},
		{api.RuleImpImp, "p & q -> r", "p & q -> r |- r"},
	} {
		x := formula.New()
		s := readSeq(t, x, c.from)
		main := read(t, x, c.main)
		fits(t, x, s, c.rule, main, false)
		refuses(t, x, s, c.rule, main, api.ErrRule)
	}
}

// TestApplyOrder: P9.3, which rule comes first where several fit; the mains are told as texts, and what stands earlier in the list of rows has the lesser number.
func TestApplyOrder(t *testing.T) {
	for _, c := range []struct {
		rows []string
		from string
		rule api.Rule
		main string
	}{
		{nil, "p & q, false |- false", api.RuleBot, "false"},                             // ahead of RuleId and RuleAndL
		{nil, "p & q, p |- p", api.RuleId, "p"},                                          // ahead of RuleAndL
		{nil, "p | q, p & q |- p & q", api.RuleId, "p & q"},                              // ahead of RuleAndR
		{nil, "p & q, r & s |- t", api.RuleAndL, "p & q"},                                // the least
		{[]string{"r & s"}, "p & q, r & s |- t", api.RuleAndL, "r & s"},                  // the least, told last
		{nil, "p & q -> r, p & q |- t", api.RuleAndL, "p & q"},                           // the least: parts stand ahead
		{[]string{"p & q -> r"}, "s & t, p & q -> r |- t", api.RuleImpAnd, "p & q -> r"}, // the least, not the rule that is told first
		{[]string{"false -> r"}, "s & t, false -> r |- t", api.RuleImpBot, "false -> r"},
		{[]string{"p | q -> r"}, "s & t, p | q -> r |- t", api.RuleImpOr, "p | q -> r"},
		{[]string{"p -> r"}, "p, s & t, p -> r |- t", api.RuleImpAtom, "p -> r"},
		{[]string{"p -> r"}, "s & t, p -> r |- t", api.RuleAndL, "s & t"}, // p is not in left
		{[]string{"p | q"}, "p | q, r & s |- t", api.RuleAndL, "r & s"},   // ahead of RuleOrL
		{nil, "p | q, r & s |- t -> u", api.RuleAndL, "r & s"},            // ahead of RuleImpR
		{nil, "p | q |- t -> u", api.RuleImpR, "t -> u"},                  // ahead of RuleOrL
		{nil, "p | q |- t & u", api.RuleAndR, "t & u"},                    // ahead of RuleOrL
		{nil, "p | q, r | s |- t", api.RuleOrL, "p | q"},                  // the least
		{[]string{"r | s"}, "p | q, r | s |- t", api.RuleOrL, "r | s"},
		{nil, "p | q |- r | s", api.RuleOrL, "p | q"},            // ahead of the choices
		{nil, "(p -> q) -> r, s | t |- u", api.RuleOrL, "s | t"}, // ahead of the choices
		{nil, "(p -> q) -> r |- u -> r", api.RuleImpR, "u -> r"}, // ahead of the choices
		{nil, "|- p | q", api.RuleStuck, ""},
		{nil, "|- p", api.RuleStuck, ""},
		{nil, "|- false", api.RuleStuck, ""},
		{nil, "p, q -> r, (p -> q) -> r |- false", api.RuleStuck, ""},
	} {
		x := formula.New()
		for _, text := range c.rows {
			read(t, x, text)
		}
		s := readSeq(t, x, c.from)
		main := 0
		if c.main != "" {
			main = read(t, x, c.main)
		}
		applies(t, x, s, c.rule, main)
		if c.rule != api.RuleStuck {
			chooses(t, x, s, nil, nil)
		}
	}
}

// TestChoices: P9.3, what is left to be tried of sequents that are open, and nothing of others.
func TestChoices(t *testing.T) {
	x := formula.New()
	first, second, third := read(t, x, "(p -> q) -> r"), read(t, x, "(q -> p) -> r"), read(t, x, "~~p")
	or, alone := read(t, x, "p | q"), read(t, x, "p -> r")
	p := read(t, x, "p")
	chooses(t, x, seq(p), nil, nil)
	chooses(t, x, seq(p, alone), nil, nil)
	chooses(t, x, seq(or), []api.Rule{api.RuleOrR1, api.RuleOrR2}, []int{or, or})
	chooses(t, x, seq(p, third, alone), []api.Rule{api.RuleImpImp}, []int{third})
	chooses(t, x, seq(p, third, first, alone, second), []api.Rule{api.RuleImpImp, api.RuleImpImp, api.RuleImpImp}, []int{first, second, third})
	chooses(t, x, seq(or, second, first), []api.Rule{api.RuleOrR1, api.RuleOrR2, api.RuleImpImp, api.RuleImpImp}, []int{or, or, first, second})
	chooses(t, x, seq(or, or, first), nil, nil)
	chooses(t, x, seq(p, or, first), nil, nil)
	chooses(t, x, seq(first, second), nil, nil)
}
