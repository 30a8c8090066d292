package rule_test

import (
	"slices"
	"testing"

	"dictum/api"
	"dictum/formula"
	"dictum/rule"
)

// plain is a sequent over a table as the chapter's words say them: lists that are gone through from their beginning.
type plain struct {
	rows []api.Node
	left []int // rising, each once
	goal int
}

func plainOf(rows []api.Node, s api.Seq) plain {
	return plain{slices.Clone(rows), leftOf(s), s.Goal}
}

func (p plain) in(id int) bool { return slices.Contains(p.left, id) }

// is tells whether a formula is X -> Y, and X is of that kind.
func (p plain) is(id int, x api.Kind) bool {
	return p.rows[id].Kind == api.KImp && p.rows[p.rows[id].L].Kind == x
}

// fits is the second column of P9.1's table.
func (p plain) fits(k api.Rule, main int) bool {
	if main < 0 || main >= len(p.rows) {
		return false
	}
	n := p.rows[main]
	switch k {
	case api.RuleBot:
		return n.Kind == api.KBot && p.in(main)
	case api.RuleId:
		return main == p.goal && p.in(main)
	case api.RuleAndL:
		return n.Kind == api.KAnd && p.in(main)
	case api.RuleImpAtom:
		return p.is(main, api.KAtom) && p.in(main) && p.in(n.L)
	case api.RuleImpBot:
		return p.is(main, api.KBot) && p.in(main)
	case api.RuleImpAnd:
		return p.is(main, api.KAnd) && p.in(main)
	case api.RuleImpOr:
		return p.is(main, api.KOr) && p.in(main)
	case api.RuleImpR:
		return main == p.goal && n.Kind == api.KImp
	case api.RuleAndR:
		return main == p.goal && n.Kind == api.KAnd
	case api.RuleOrL:
		return n.Kind == api.KOr && p.in(main)
	case api.RuleOrR1, api.RuleOrR2:
		return main == p.goal && n.Kind == api.KOr
	case api.RuleImpImp:
		return p.is(main, api.KImp) && p.in(main)
	}
	return false
}

// row is the number of an implication, which becomes a row behind the others, if it is none yet.
func (p *plain) row(l, r int) int {
	n := join(api.KImp, l, r)
	if id := slices.Index(p.rows, n); id >= 0 {
		return id
	}
	p.rows = append(p.rows, n)
	return len(p.rows) - 1
}

// premises is the third column of P9.1's table, of a rule that fits; the rows are put without a bound.
func (p *plain) premises(k api.Rule, main int) []api.Seq {
	n := p.rows[main]
	a, b := n.L, n.R
	c, d := p.rows[a].L, p.rows[a].R
	less := slices.DeleteFunc(slices.Clone(p.left), func(id int) bool { return id == main })
	from := func(goal int, left []int, more ...int) api.Seq {
		for _, id := range more {
			if id >= api.MaxForms { // no such sequent: who asks tells it by the rows
				return api.Seq{}
			}
		}
		return seq(goal, append(slices.Clone(left), more...)...)
	}
	switch k {
	case api.RuleAndL:
		return []api.Seq{from(p.goal, less, a, b)}
	case api.RuleImpAtom:
		return []api.Seq{from(p.goal, less, b)}
	case api.RuleImpBot:
		return []api.Seq{from(p.goal, less)}
	case api.RuleImpAnd:
		inner := p.row(d, b)
		return []api.Seq{from(p.goal, less, p.row(c, inner))}
	case api.RuleImpOr:
		one := p.row(c, b)
		two := p.row(d, b)
		return []api.Seq{from(p.goal, less, one, two)}
	case api.RuleImpR:
		return []api.Seq{from(b, p.left, a)}
	case api.RuleAndR:
		return []api.Seq{from(a, p.left), from(b, p.left)}
	case api.RuleOrL:
		return []api.Seq{from(p.goal, less, a), from(p.goal, less, b)}
	case api.RuleOrR1:
		return []api.Seq{from(a, p.left)}
	case api.RuleOrR2:
		return []api.Seq{from(b, p.left)}
	case api.RuleImpImp:
		return []api.Seq{from(a, less, p.row(d, b)), from(p.goal, less, b)}
	}
	return nil
}

// apply is P9.3's Apply, sentence by sentence.
func (p plain) apply() (api.Rule, int) {
	for main := range p.rows {
		if p.fits(api.RuleBot, main) {
			return api.RuleBot, main
		}
	}
	if p.in(p.goal) {
		return api.RuleId, p.goal
	}
	for _, main := range p.left {
		for k := api.RuleAndL; k <= api.RuleImpOr; k++ {
			if p.fits(k, main) {
				return k, main
			}
		}
	}
	switch p.rows[p.goal].Kind {
	case api.KImp:
		return api.RuleImpR, p.goal
	case api.KAnd:
		return api.RuleAndR, p.goal
	}
	for _, main := range p.left {
		if p.rows[main].Kind == api.KOr {
			return api.RuleOrL, main
		}
	}
	return api.RuleStuck, 0
}

// choices is P9.3's Choices.
func (p plain) choices() (rules []api.Rule, mains []int) {
	if k, _ := p.apply(); k != api.RuleStuck {
		return nil, nil
	}
	if p.rows[p.goal].Kind == api.KOr {
		rules, mains = []api.Rule{api.RuleOrR1, api.RuleOrR2}, []int{p.goal, p.goal}
	}
	for _, main := range p.left {
		if p.is(main, api.KImp) {
			rules, mains = append(rules, api.RuleImpImp), append(mains, main)
		}
	}
	return rules, mains
}

// holdOrder holds Apply and Choices against the plain reading.
func holdOrder(t *testing.T, x *formula.Table, p plain, s api.Seq) {
	t.Helper()
	k, main := p.apply()
	if got, id, e := rule.Apply(x, s); got != k || id != main || e != api.OK {
		t.Fatalf("Apply(%v |- %d) of %v: rule %d of %d, error %d, not rule %d of %d", p.left, p.goal, p.rows, got, id, e, k, main)
	}
	rules, mains := p.choices()
	if got, ids, e := rule.Choices(x, s); !slices.Equal(got, rules) || !slices.Equal(ids, mains) || e != api.OK {
		t.Fatalf("Choices(%v |- %d) of %v: rules %v of %v, error %d, not rules %v of %v", p.left, p.goal, p.rows, got, ids, e, rules, mains)
	}
}

// holdRule holds Fits and Premises of one rule against the plain reading, and puts the table back.
func holdRule(t *testing.T, x *formula.Table, p plain, s api.Seq, k api.Rule, main int) {
	t.Helper()
	want := p.fits(k, main)
	if got, e := rule.Fits(x, s, k, main); got != want || e != api.OK {
		t.Fatalf("Fits(%v |- %d, rule %d of %d) of %v: %v, error %d, not %v", p.left, p.goal, k, main, p.rows, got, e, want)
	}
	many := len(p.rows)
	var premises []api.Seq
	wantE := api.ErrRule
	if want {
		premises, wantE = p.premises(k, main), api.OK
	}
	if len(p.rows) > api.MaxForms {
		premises, wantE, p.rows = nil, api.ErrForms, p.rows[:many]
	}
	got, e := rule.Premises(x, s, k, main)
	if !slices.Equal(got, premises) || e != wantE {
		t.Fatalf("Premises(%v |- %d, rule %d of %d) of %v: %v, error %d, not %v, error %d", p.left, p.goal, k, main, p.rows, got, e, premises, wantE)
	}
	if x.Len() != len(p.rows) || !slices.Equal(x.Rows(), p.rows) {
		t.Fatalf("Premises(%v |- %d, rule %d of %d): rows %v, not %v", p.left, p.goal, k, main, x.Rows(), p.rows)
	}
	x.Cut(many)
}

// TestPlainShort: P9.1 to P9.3, every sequent with at most one formula on the left, every rule, both of its formulas as main, against the plain reading.
func TestPlainShort(t *testing.T) {
	rows := shapes()
	x := made(t, rows...)
	for goal := range rows {
		for left := -1; left < len(rows); left++ {
			s := seq(goal)
			if left >= 0 {
				s = seq(goal, left)
			}
			p := plainOf(rows, s)
			holdOrder(t, x, p, s)
			for _, k := range rules() {
				for _, main := range []int{left, goal} {
					holdRule(t, x, p, s, k, main)
				}
			}
		}
	}
	same(t, x, rows)
}

// TestPlainPairs: P9.1 to P9.3, every pair of formulas on the left, with goals of each shape, against the plain reading.
func TestPlainPairs(t *testing.T) {
	rows := shapes()
	x := made(t, rows...)
	for one := range rows {
		for two := range one {
			for _, goal := range []int{0, 4, 13, 30 + one%54} {
				s := seq(goal, one, two)
				p := plainOf(rows, s)
				holdOrder(t, x, p, s)
				for k := api.RuleBot; k <= api.RuleStuck; k++ {
					holdRule(t, x, p, s, k, one)
					holdRule(t, x, p, s, k, two)
				}
			}
		}
	}
	same(t, x, rows)
}

// TestPlainChance: P9.1 to P9.3, sequents by chance, every rule and every main, against the plain reading.
func TestPlainChance(t *testing.T) {
	chance := newChance(1)
	for range 300 {
		rows := someRows(chance, 3+chance.IntN(24), 1+chance.IntN(20), 3)
		x := made(t, rows...)
		for range 4 {
			s := someSeq(chance, len(rows), 8)
			p := plainOf(rows, s)
			holdOrder(t, x, p, s)
			for _, k := range rules() {
				for main := -1; main <= len(rows); main++ {
					holdRule(t, x, p, s, k, main)
				}
			}
		}
	}
}

// TestPlainLarge: P9.1 to P9.3, tables that are full or nearly so, whose left sides reach into every word of a row of bits.
func TestPlainLarge(t *testing.T) {
	chance := newChance(2)
	for range 6 {
		rows := someRows(chance, api.MaxForms-chance.IntN(3), 200, 20)
		x := made(t, rows...)
		for range 20 {
			s := someSeq(chance, len(rows), 60)
			p := plainOf(rows, s)
			holdOrder(t, x, p, s)
			for _, k := range rules() {
				for _, main := range append(leftOf(s), s.Goal, len(rows), -1) {
					holdRule(t, x, p, s, k, main)
				}
			}
		}
	}
}
