package search_test

import (
	"testing"

	"dictum/api"
)

// TestStepsAtOnce: P11.2, sequents that need no premise.
func TestStepsAtOnce(t *testing.T) {
	tells(t, "p |- p", []string{"0: p |- p; proved id p"})
	tells(t, "p & q |- p & q", []string{"0: p & q |- p & q; proved id p & q"})
	tells(t, "false |- p", []string{"0: false |- p; proved bot false"})
	tells(t, "false |- false", []string{"0: false |- false; proved bot false"})
	tells(t, "p", []string{"0: |- p; refuted stuck"})
	tells(t, "false", []string{"0: |- false; refuted stuck"})
	tells(t, "p, q -> r |- r", []string{"0: p, q -> r |- r; refuted stuck"})
}

// TestStepsLeft: P11.2, the rules of the left side that have one premise, proved and refuted.
func TestStepsLeft(t *testing.T) {
	tells(t, "p & q |- q", []string{"0: p, q |- q; proved id q", "1: p & q |- q; proved andl p & q / 0"})
	tells(t, "p & q |- r", []string{"0: p, q |- r; refuted stuck", "1: p & q |- r; refuted andl p & q / 0"})
	tells(t, "p, p -> q |- q", []string{"0: p, q |- q; proved id q", "1: p, p -> q |- q; proved impatom p -> q / 0"})
	tells(t, "p, p -> q |- r", []string{"0: p, q |- r; refuted stuck", "1: p, p -> q |- r; refuted impatom p -> q / 0"})
	tells(t, "false -> p |- q", []string{"0: |- q; refuted stuck", "1: false -> p |- q; refuted impbot false -> p / 0"})
	tells(t, "false -> p |- q -> q", []string{"0: q |- q; proved id q", "1: |- q -> q; proved impr q -> q / 0", "2: false -> p |- q -> q; proved impbot false -> p / 1"})
	tells(t, "p & q -> r |- r", []string{"0: p -> q -> r |- r; refuted stuck", "1: p & q -> r |- r; refuted impand p & q -> r / 0"}, "q -> r", "p -> q -> r")
	tells(t, "p | q -> r, q |- r", []string{
		"0: q, r, p -> r |- r; proved id r",
		"1: q, p -> r, q -> r |- r; proved impatom q -> r / 0",
		"2: q, p | q -> r |- r; proved impor p | q -> r / 1",
	}, "p -> r", "q -> r")
	tells(t, "p | q -> r |- s", []string{"0: p -> r, q -> r |- s; refuted stuck", "1: p | q -> r |- s; refuted impor p | q -> r / 0"}, "p -> r", "q -> r")
}

// TestStepsRight: P11.2, implications and conjunctions as goals: a premise that is refuted is the only kid, and what stands behind it is not decided.
func TestStepsRight(t *testing.T) {
	tells(t, "p -> p", []string{"0: p |- p; proved id p", "1: |- p -> p; proved impr p -> p / 0"})
	tells(t, "p -> q", []string{"0: p |- q; refuted stuck", "1: |- p -> q; refuted impr p -> q / 0"})
	tells(t, "p, q |- p & q", []string{"0: p, q |- p; proved id p", "1: p, q |- q; proved id q", "2: p, q |- p & q; proved andr p & q / 0, 1"})
	tells(t, "p |- p & q", []string{"0: p |- p; proved id p", "1: p |- q; refuted stuck", "2: p |- p & q; refuted andr p & q / 1"})
	tells(t, "q |- p & q", []string{"0: q |- p; refuted stuck", "1: q |- p & q; refuted andr p & q / 0"})
}

// TestStepsOrL: P11.2, disjunctions on the left.
func TestStepsOrL(t *testing.T) {
	tells(t, "p | q |- q", []string{"0: p |- q; refuted stuck", "1: p | q |- q; refuted orl p | q / 0"})
	tells(t, "p | q |- p", []string{"0: p |- p; proved id p", "1: q |- p; refuted stuck", "2: p | q |- p; refuted orl p | q / 1"})
	tells(t, "p | q |- q | p", []string{
		"0: p |- q; refuted stuck",
		"1: p |- p; proved id p",
		"2: p |- q | p; proved orr2 q | p / 1",
		"3: q |- q; proved id q",
		"4: q |- q | p; proved orr1 q | p / 3",
		"5: p | q |- q | p; proved orl p | q / 2, 4",
	})
}

// TestStepsOr: P11.2, choices of a disjunction; one that is refuted leaves its steps, one that is proved is the last.
func TestStepsOr(t *testing.T) {
	tells(t, "p |- p | q", []string{"0: p |- p; proved id p", "1: p |- p | q; proved orr1 p | q / 0"})
	tells(t, "p | (q -> q)", []string{
		"0: |- p; refuted stuck",
		"1: q |- q; proved id q",
		"2: |- q -> q; proved impr q -> q / 1",
		"3: |- p | (q -> q); proved orr2 p | (q -> q) / 2",
	})
	tells(t, "p | q", []string{"0: |- p; refuted stuck", "1: |- q; refuted stuck", "2: |- p | q; refuted stuck / 0, 1"})
}

// TestStepsTwice: P11.2, what a step has already is not entered again, but is a kid as often as it came.
func TestStepsTwice(t *testing.T) {
	tells(t, "p | p", []string{"0: |- p; refuted stuck", "1: |- p | p; refuted stuck / 0, 0"})
	tells(t, "p |- p & p", []string{"0: p |- p; proved id p", "1: p |- p & p; proved andr p & p / 0, 0"})
	tells(t, "p & p", []string{"0: |- p; refuted stuck", "1: |- p & p; refuted andr p & p / 0"})
	tells(t, "p | (q | p)", []string{
		"0: |- p; refuted stuck",
		"1: |- q; refuted stuck",
		"2: |- q | p; refuted stuck / 1, 0",
		"3: |- p | (q | p); refuted stuck / 0, 2",
	})
	tells(t, "p |- (q | p) & (p & (q | p))", []string{
		"0: p |- q; refuted stuck",
		"1: p |- p; proved id p",
		"2: p |- q | p; proved orr2 q | p / 1",
		"3: p |- p & (q | p); proved andr p & (q | p) / 1, 2",
		"4: p |- (q | p) & (p & (q | p)); proved andr (q | p) & (p & (q | p)) / 2, 3",
	})
}

// TestStepsImpImp: P11.2, choices of an implication whose left side is one: the first premise refuted, both proved, the second one refuted.
func TestStepsImpImp(t *testing.T) {
	tells(t, "(p -> q) -> r |- r", []string{
		"0: p, q -> r |- q; refuted stuck",
		"1: q -> r |- p -> q; refuted impr p -> q / 0",
		"2: (p -> q) -> r |- r; refuted stuck / 1",
	}, "q -> r")
	tells(t, "(p -> p) -> q |- q", []string{
		"0: p, p -> q |- p; proved id p",
		"1: p -> q |- p -> p; proved impr p -> p / 0",
		"2: q |- q; proved id q",
		"3: (p -> p) -> q |- q; proved impimp (p -> p) -> q / 1, 2",
	}, "p -> q")
	tells(t, "(p -> p) -> q |- r", []string{
		"0: p, p -> q |- p; proved id p",
		"1: p -> q |- p -> p; proved impr p -> p / 0",
		"2: q |- r; refuted stuck",
		"3: (p -> p) -> q |- r; refuted impimp (p -> p) -> q / 2",
	}, "p -> q")
}

// TestStepsNoFurther: P11.2, behind a second premise that is refuted no further choice is tried.
func TestStepsNoFurther(t *testing.T) {
	tells(t, "(p -> p) -> q, (p -> q) -> p |- r", []string{
		"0: p, p -> q, (p -> q) -> p |- p; proved id p",
		"1: p -> q, (p -> q) -> p |- p -> p; proved impr p -> p / 0",
		"2: p, q |- q; proved id q",
		"3: p, q |- p -> q; proved impr p -> q / 2",
		"4: q, q -> p |- p -> q; proved impatom q -> p / 3",
		"5: p, q |- r; refuted stuck",
		"6: q, (p -> q) -> p |- r; refuted impimp (p -> q) -> p / 5",
		"7: (p -> p) -> q, (p -> q) -> p |- r; refuted impimp (p -> p) -> q / 6",
	}, "q -> p")
}

// TestStepsNextChoice: P11.2, a choice whose first premise is refuted is left for the next one, and its rows stay.
func TestStepsNextChoice(t *testing.T) {
	tells(t, "(p -> q) -> r, (s -> s) -> r |- r", []string{
		"0: p, s, q -> r, s -> r |- s; proved id s",
		"1: p, q -> r, s -> r |- s -> s; proved impr s -> s / 0",
		"2: p, r, q -> r |- q; refuted stuck",
		"3: p, (s -> s) -> r, q -> r |- q; refuted impimp (s -> s) -> r / 2",
		"4: (s -> s) -> r, q -> r |- p -> q; refuted impr p -> q / 3",
		"5: (p -> q) -> r, s, s -> r |- s; proved id s",
		"6: (p -> q) -> r, s -> r |- s -> s; proved impr s -> s / 5",
		"7: r, (p -> q) -> r |- r; proved id r",
		"8: (p -> q) -> r, (s -> s) -> r |- r; proved impimp (s -> s) -> r / 6, 7",
	}, "q -> r", "s -> r")
}

// TestStepsAllChoices: P11.2, both choices of a disjunction ahead of those of the left side, and the kids of what is stuck in the order of the choices.
func TestStepsAllChoices(t *testing.T) {
	tells(t, "(p -> q) -> r |- p | q", []string{
		"0: p, q -> r |- q; refuted stuck",
		"1: q -> r |- p -> q; refuted impr p -> q / 0",
		"2: (p -> q) -> r |- p; refuted stuck / 1",
		"3: (p -> q) -> r |- q; refuted stuck / 1",
		"4: (p -> q) -> r |- p | q; refuted stuck / 2, 3, 1",
	}, "q -> r")
	tells(t, "(r -> r) -> p | q |- q | p", []string{
		"0: r, r -> p | q |- r; proved id r",
		"1: r -> p | q |- r -> r; proved impr r -> r / 0",
		"2: p |- q; refuted stuck",
		"3: p | q |- q; refuted orl p | q / 2",
		"4: (r -> r) -> p | q |- q; refuted impimp (r -> r) -> p | q / 3",
		"5: p |- p; proved id p",
		"6: q |- p; refuted stuck",
		"7: p | q |- p; refuted orl p | q / 6",
		"8: (r -> r) -> p | q |- p; refuted impimp (r -> r) -> p | q / 7",
		"9: p |- q | p; proved orr2 q | p / 5",
		"10: q |- q; proved id q",
		"11: q |- q | p; proved orr1 q | p / 10",
		"12: p | q |- q | p; proved orl p | q / 9, 11",
		"13: (r -> r) -> p | q |- q | p; proved impimp (r -> r) -> p | q / 1, 12",
	}, "r -> p | q")
}

// TestStepsMiddle: P11.2, the double negation of the excluded middle.
func TestStepsMiddle(t *testing.T) {
	tells(t, "~~(p | ~p)", []string{
		"0: ~p, true |- ~p; proved id ~p",
		"1: false, ~p |- false; proved bot false",
		"2: ~p, ~~p |- false; proved impimp ~~p / 0, 1",
		"3: ~(p | ~p) |- false; proved impor ~(p | ~p) / 2",
		"4: |- ~~(p | ~p); proved impr ~~(p | ~p) / 3",
	}, "~~p", "true")
}

// TestStepsMainNought: P11.2, Main of what is stuck is 0, and so may be that of what is not.
func TestStepsMainNought(t *testing.T) {
	x := made(t, atom("p"), atom("q"))
	finds(t, x, seq(0, 0, 1), found(proved(seq(0, 0, 1), api.RuleId, 0)))
	finds(t, x, seq(0, 1), found(stuck(seq(0, 1))))
	finds(t, x, seq(1, 0), found(stuck(seq(1, 0))))
}
