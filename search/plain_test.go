package search_test

import (
	"slices"
	"testing"

	"dictum/api"
	"dictum/formula"
	"dictum/search"
)

// plain is a search as the words of the chapters 9 and 11 say it: lists that are gone through from their beginning, and nothing of layer 9's or of layer 11's.
type plain struct {
	rows    []api.Node
	steps   []api.Step
	entered int
	budget  int
	error   api.Errno // the first one; behind it all answers are of no use
}

// is tells whether a formula is X -> Y, and X is of that kind.
func (p *plain) is(id int, x api.Kind) bool {
	return p.rows[id].Kind == api.KImp && p.rows[p.rows[id].L].Kind == x
}

// row is the number of an implication, which becomes a row behind the others, if it is none yet and has room.
func (p *plain) row(l, r int) int {
	n := join(api.KImp, l, r)
	if id := slices.Index(p.rows, n); id >= 0 {
		return id
	}
	if len(p.rows) == api.MaxForms {
		p.fail(api.ErrForms)
		return 0
	}
	p.rows = append(p.rows, n)
	return len(p.rows) - 1
}

func (p *plain) fail(e api.Errno) {
	if p.error == api.OK {
		p.error = e
	}
}

// apply is P9.3's Apply, sentence by sentence.
func (p *plain) apply(s api.Seq) (api.Rule, int) {
	left := leftOf(s)
	for _, main := range left {
		if p.rows[main].Kind == api.KBot {
			return api.RuleBot, main
		}
	}
	if slices.Contains(left, s.Goal) {
		return api.RuleId, s.Goal
	}
	for _, main := range left {
		switch {
		case p.rows[main].Kind == api.KAnd:
			return api.RuleAndL, main
		case p.is(main, api.KAtom) && slices.Contains(left, p.rows[main].L):
			return api.RuleImpAtom, main
		case p.is(main, api.KBot):
			return api.RuleImpBot, main
		case p.is(main, api.KAnd):
			return api.RuleImpAnd, main
		case p.is(main, api.KOr):
			return api.RuleImpOr, main
		}
	}
	switch p.rows[s.Goal].Kind {
	case api.KImp:
		return api.RuleImpR, s.Goal
	case api.KAnd:
		return api.RuleAndR, s.Goal
	}
	for _, main := range left {
		if p.rows[main].Kind == api.KOr {
			return api.RuleOrL, main
		}
	}
	return api.RuleStuck, 0
}

// premises is the third column of P9.1's table.
func (p *plain) premises(s api.Seq, k api.Rule, main int) []api.Seq {
	n := p.rows[main]
	a, b, g := n.L, n.R, s.Goal
	c, d := p.rows[a].L, p.rows[a].R
	less := slices.DeleteFunc(leftOf(s), func(id int) bool { return id == main })
	without := func(goal int, more ...int) api.Seq { return seq(goal, slices.Concat(less, more)...) }
	switch k {
	case api.RuleAndL:
		return []api.Seq{without(g, a, b)}
	case api.RuleImpAtom:
		return []api.Seq{without(g, b)}
	case api.RuleImpBot:
		return []api.Seq{without(g)}
	case api.RuleImpAnd:
		inner := p.row(d, b)
		return []api.Seq{without(g, p.row(c, inner))}
	case api.RuleImpOr:
		one := p.row(c, b)
		two := p.row(d, b)
		return []api.Seq{without(g, one, two)}
	case api.RuleImpR:
		return []api.Seq{seq(b, append(leftOf(s), a)...)}
	case api.RuleAndR:
		return []api.Seq{seq(a, leftOf(s)...), seq(b, leftOf(s)...)}
	case api.RuleOrL:
		return []api.Seq{without(g, a), without(g, b)}
	case api.RuleOrR1:
		return []api.Seq{seq(a, leftOf(s)...)}
	case api.RuleOrR2:
		return []api.Seq{seq(b, leftOf(s)...)}
	case api.RuleImpImp:
		return []api.Seq{without(a, p.row(d, b)), without(g, b)}
	}
	return nil
}

// decide is P11.2: the number of the step that decides a sequent.
func (p *plain) decide(s api.Seq) int {
	for i, step := range p.steps {
		if step.Seq == s {
			return i
		}
	}
	if p.entered == p.budget {
		p.fail(api.ErrBudget)
		return 0
	}
	p.entered++
	step := p.byRule(s)
	if p.error != api.OK {
		return 0
	}
	p.steps = append(p.steps, step)
	return len(p.steps) - 1
}

// byRule is P11.2's number 1.
func (p *plain) byRule(s api.Seq) api.Step {
	k, main := p.apply(s)
	if k == api.RuleStuck {
		return p.byChoice(s)
	}
	premises := p.premises(s, k, main)
	var kids []int
	for _, q := range premises {
		if p.error != api.OK {
			break
		}
		kid := p.decide(q)
		if p.error != api.OK {
			break
		}
		if !p.steps[kid].Proved {
			return refuted(s, k, main, kid)
		}
		kids = append(kids, kid)
	}
	return proved(s, k, main, kids...)
}

// byChoice is P11.2's numbers 2 and 3.
func (p *plain) byChoice(s api.Seq) api.Step {
	var kids []int
	try := func(k api.Rule, main int) (api.Step, bool) {
		premises := p.premises(s, k, main)
		if p.error != api.OK {
			return api.Step{}, true
		}
		one := p.decide(premises[0])
		if p.error != api.OK {
			return api.Step{}, true
		}
		if !p.steps[one].Proved {
			kids = append(kids, one)
			return api.Step{}, false
		}
		if k != api.RuleImpImp {
			return proved(s, k, main, one), true
		}
		two := p.decide(premises[1])
		if p.error != api.OK {
			return api.Step{}, true
		}
		if p.steps[two].Proved {
			return proved(s, k, main, one, two), true
		}
		return refuted(s, k, main, two), true
	}
	if p.rows[s.Goal].Kind == api.KOr {
		for _, k := range []api.Rule{api.RuleOrR1, api.RuleOrR2} {
			if step, done := try(k, s.Goal); done {
				return step
			}
		}
	}
	for _, main := range leftOf(s) {
		if p.is(main, api.KImp) {
			if step, done := try(api.RuleImpImp, main); done {
				return step
			}
		}
	}
	return stuck(s, kids...)
}

// plainRun is the answer of the plain reading, and the table's rows behind it.
func plainRun(rows []api.Node, s api.Seq, budget int) (api.Found, []api.Node, api.Errno) {
	p := &plain{rows: slices.Clone(rows), budget: budget}
	last := p.decide(s)
	if p.error != api.OK {
		return api.Found{}, rows, p.error
	}
	return api.Found{Proved: p.steps[last].Proved, Steps: p.steps, Visits: p.entered}, p.rows, api.OK
}

// holdPlain holds Run against the plain reading, and answers its error and how many sequents were entered; the table is put back.
func holdPlain(t *testing.T, x *formula.Table, s api.Seq, budget int) (api.Found, api.Errno) {
	t.Helper()
	rows := x.Rows()
	want, wantRows, wantE := plainRun(rows, s, budget)
	got, e := search.Run(x, s, budget)
	if e != wantE || !alike(got, want) {
		t.Fatalf("Run(%v |- %d, %d) of %v: %s, error %d, not %s, error %d", leftOf(s), s.Goal, budget, rows, show(got), e, show(want), wantE)
	}
	if !slices.Equal(x.Rows(), wantRows) {
		t.Fatalf("Run(%v |- %d, %d) of %v: error %d, rows %v, not %v", leftOf(s), s.Goal, budget, rows, e, x.Rows()[len(rows):], wantRows[len(rows):])
	}
	x.Cut(len(rows))
	return got, e
}

// TestPlainChance: P11.1 and P11.2, sequents by chance against the plain reading, each with the budgets round that which it needs.
func TestPlainChance(t *testing.T) {
	chance := newChance(1)
	rules := map[api.Rule]int{}
	for range 7000 {
		rows := someRows(chance, 3+chance.IntN(18), 1+chance.IntN(20), 3)
		x := made(t, rows...)
		s := someSeq(chance, len(rows), 6)
		f, e := holdPlain(t, x, s, 300)
		if e != api.OK {
			continue
		}
		for _, step := range f.Steps {
			k := step.Rule
			if !step.Proved {
				k = -k
			}
			rules[k]++
		}
		for _, budget := range []int{f.Visits, f.Visits - 1, f.Visits + 1, 1 + chance.IntN(f.Visits)} {
			if budget > 0 {
				holdPlain(t, x, s, budget)
			}
		}
	}
	for k := api.RuleBot; k <= api.RuleStuck; k++ {
		mayProve, mayRefute := k != api.RuleStuck, k != api.RuleBot && k != api.RuleId && k != api.RuleOrR1 && k != api.RuleOrR2
		if mayProve && rules[k] < 100 || mayRefute && rules[-k] < 100 {
			t.Errorf("rule %d proved %d times and refuted %d times only", k, rules[k], rules[-k])
		}
	}
}

// TestPlainShort: P11.1 and P11.2, all sequents with up to one formula on the left, of formulas of each shape that the rules tell apart, against the plain reading.
func TestPlainShort(t *testing.T) {
	rows := []api.Node{atom("p"), atom("q"), bot()}
	for _, k := range kinds() {
		for l := range 3 {
			for r := range 3 {
				rows = append(rows, join(k, l, r))
			}
		}
	}
	for l := 3; l < 30; l++ {
		rows = append(rows, join(api.KImp, l, l%3), join(api.KImp, l%3, l), join(api.KOr, l, (l+1)%3))
	}
	x := made(t, rows...)
	for goal := range rows {
		holdPlain(t, x, seq(goal), api.MaxVisits)
		for left := range rows {
			holdPlain(t, x, seq(goal, left), api.MaxVisits)
		}
	}
}

// TestPlainFull: P11.1, tables with so little room that it comes to an end on the way, against the plain reading: the room, or the budget, whichever comes first.
func TestPlainFull(t *testing.T) {
	chance := newChance(2)
	seen := map[api.Errno]int{}
	for range 1200 {
		rows := someRows(chance, 6+chance.IntN(18), 1+chance.IntN(20), 3)
		x := filled(t, rows, api.MaxForms-chance.IntN(5))
		s := someSeq(chance, len(rows), 6)
		_, e := holdPlain(t, x, s, 1+chance.IntN(15))
		seen[e]++
	}
	if seen[api.OK] < 50 || seen[api.ErrForms] < 50 || seen[api.ErrBudget] < 50 {
		t.Errorf("%v", seen)
	}
}

// TestPlainLarge: P11.1 and P11.2, great tables, whose left sides reach into every word of a row of bits, against the plain reading.
func TestPlainLarge(t *testing.T) {
	chance := newChance(5)
	for range 30 {
		rows := someRows(chance, api.MaxForms-chance.IntN(200), 300, 40)
		x := made(t, rows...)
		for range 4 {
			holdPlain(t, x, someSeq(chance, len(rows), 40), 1+chance.IntN(400))
		}
	}
}
