package rule_test

import (
	"slices"
	"testing"

	"dictum/api"
	"dictum/formula"
	"dictum/rule"
)

// weight is P9.4's weight of a formula.
func weight(rows []api.Node, id int) int {
	n := rows[id]
	switch n.Kind {
	case api.KAtom, api.KBot:
		return 1
	case api.KAnd:
		return weight(rows, n.L) + weight(rows, n.R) + 2
	}
	return weight(rows, n.L) + weight(rows, n.R) + 1
}

// weights are the weights of all formulas of a sequent, falling.
func weights(rows []api.Node, s api.Seq) []int {
	var l []int
	for _, id := range append(leftOf(s), s.Goal) {
		l = append(l, weight(rows, id))
	}
	slices.Sort(l)
	slices.Reverse(l)
	return l
}

// truth tells which formulas are true in a row of a truth table, of which the atoms are bits in the order of the rows.
func truth(rows []api.Node, row int) []bool {
	l := make([]bool, len(rows))
	atoms := 0
	for id, n := range rows {
		switch n.Kind {
		case api.KAtom:
			l[id] = row>>atoms&1 == 1
			atoms++
		case api.KAnd:
			l[id] = l[n.L] && l[n.R]
		case api.KOr:
			l[id] = l[n.L] || l[n.R]
		case api.KImp:
			l[id] = !l[n.L] || l[n.R]
		}
	}
	return l
}

// isFalse tells whether a sequent is false in a row: all in left is true, and the goal is not.
func isFalse(row []bool, s api.Seq) bool {
	for _, id := range leftOf(s) {
		if !row[id] {
			return false
		}
	}
	return !row[s.Goal]
}

// holdFollows is P9.4 of one rule of a sequent; sure tells that Apply answers it. The table is put back.
func holdFollows(t *testing.T, x *formula.Table, s api.Seq, k api.Rule, main int, atoms int, sure bool) {
	t.Helper()
	old := x.Len()
	premises, e := rule.Premises(x, s, k, main)
	rows := x.Rows()
	x.Cut(old)
	if e != api.OK {
		t.Fatalf("Premises(%v |- %d, rule %d of %d) of %v: error %d", leftOf(s), s.Goal, k, main, rows, e)
	}
	for _, q := range premises {
		if got, all := weights(rows, q), weights(rows, s); slices.Compare(got, all) >= 0 {
			t.Fatalf("rule %d of %d of %v |- %d: weights %v, which do not come ahead of %v; rows %v", k, main, leftOf(s), s.Goal, got, all, rows)
		}
	}
	for r := range 1 << atoms {
		row := truth(rows, r)
		some := slices.ContainsFunc(premises, func(q api.Seq) bool { return isFalse(row, q) })
		if isFalse(row, s) && !some || sure && some && !isFalse(row, s) {
			t.Fatalf("rule %d of %d of %v |- %d in row %d: a premise is false: %v; rows %v", k, main, leftOf(s), s.Goal, r, some, rows)
		}
	}
}

// countAtoms tells how many atoms there are.
func countAtoms(rows []api.Node) int {
	many := 0
	for _, n := range rows {
		if n.Kind == api.KAtom {
			many++
		}
	}
	return many
}

// TestFollows: P9.4, of every rule that fits, sequents by chance: the premises' weights come ahead, and what is false in a row of the truth table.
func TestFollows(t *testing.T) {
	chance := newChance(4)
	seen := map[api.Rule]int{}
	for range 4000 {
		rows := someRows(chance, 3+chance.IntN(20), 1+chance.IntN(20), 3)
		x := made(t, rows...)
		s := someSeq(chance, len(rows), 5)
		sure, of, _ := rule.Apply(x, s)
		for _, k := range rules() {
			for main := range rows {
				if ok, _ := rule.Fits(x, s, k, main); ok {
					seen[k]++
					holdFollows(t, x, s, k, main, countAtoms(rows), k == sure && main == of)
				}
			}
		}
	}
	for k := api.RuleBot; k <= api.RuleImpImp; k++ {
		if seen[k] < 200 {
			t.Errorf("rule %d was tried %d times only", k, seen[k])
		}
	}
}

// TestFollowsShort: P9.4, of every sequent of shapes() with one formula and two atoms on the left.
func TestFollowsShort(t *testing.T) {
	rows := shapes()
	x := made(t, rows...)
	for left := range rows {
		for goal := range rows {
			for _, s := range []api.Seq{seq(goal, left), seq(goal, left, 0), seq(goal, left, 0, 1)} {
				sure, of, _ := rule.Apply(x, s)
				for k := api.RuleBot; k <= api.RuleImpImp; k++ {
					for _, main := range []int{left, goal} {
						if ok, _ := rule.Fits(x, s, k, main); ok {
							holdFollows(t, x, s, k, main, 2, k == sure && main == of)
						}
					}
				}
			}
		}
	}
}

// proves decides a sequent by the rules alone: a rule of Apply's, or one of the choices, all of whose premises are proved.
func proves(t *testing.T, x *formula.Table, s api.Seq) bool {
	t.Helper()
	all := func(k api.Rule, main int) bool {
		l, e := rule.Premises(x, s, k, main)
		if e != api.OK {
			t.Fatalf("rule %d of %d: error %d", k, main, e)
		}
		return !slices.ContainsFunc(l, func(q api.Seq) bool { return !proves(t, x, q) })
	}
	if k, main, _ := rule.Apply(x, s); k != api.RuleStuck {
		return all(k, main)
	}
	k, mains, _ := rule.Choices(x, s)
	for i := range k {
		if all(k[i], mains[i]) {
			return true
		}
	}
	return false
}

// TestDecides: P9.4, there is no endless row of premises, and what the rules prove is what intuitionistic logic has.
func TestDecides(t *testing.T) {
	for text, want := range map[string]bool{
		"p -> p":        true,
		"p -> (q -> p)": true,
		"(p -> (q -> r)) -> ((p -> q) -> (p -> r))": true,
		"p & q -> q & p":                          true,
		"p | q -> q | p":                          true,
		"p & (q | r) <-> p & q | p & r":           true,
		"p | q & r <-> (p | q) & (p | r)":         true,
		"~~(p | ~p)":                              true,
		"~~(((p -> q) -> p) -> p)":                true,
		"~~~p -> ~p":                              true,
		"~(p | q) <-> ~p & ~q":                    true,
		"~p | ~q -> ~(p & q)":                     true,
		"(p -> q) -> (~q -> ~p)":                  true,
		"~p | q -> (p -> q)":                      true,
		"~~(p & q) <-> ~~p & ~~q":                 true,
		"~~(p -> q) <-> (~~p -> ~~q)":             true,
		"((p | (p -> q)) -> q) -> q":              true,
		"(((p -> q) -> p) -> p -> q) -> (p -> q)": true,
		"true":                                   true,
		"false -> p":                             true,
		"p":                                      false,
		"false":                                  false,
		"p | ~p":                                 false,
		"~~p -> p":                               false,
		"((p -> q) -> p) -> p":                   false,
		"~p | ~~p":                               false,
		"(p -> q) | (q -> p)":                    false,
		"~(p & q) -> ~p | ~q":                    false,
		"(~q -> ~p) -> (p -> q)":                 false,
		"(p -> q) -> ~p | q":                     false,
		"(~p -> q | r) -> (~p -> q) | (~p -> r)": false,
		"((~~p -> p) -> p | ~p) -> ~p | ~~p":     false,
		"(p -> q | r) -> (p -> q) | (p -> r)":    false,
		"p -> q":                                 false,
	} {
		x := formula.New()
		s := seq(read(t, x, text))
		if got := proves(t, x, s); got != want {
			t.Errorf("%s: %v, not %v", text, got, want)
		}
	}
}
