package deriv_test

import (
	"math/rand/v2"
	"slices"
	"testing"

	"dictum/api"
	"dictum/deriv"
	"dictum/formula"
)

// plain is a sequent over a table that stands as it is: layer 9's words, by lists that are gone through from their beginning.
type plain struct {
	rows []api.Node
	left []int
	goal int
}

// premise is a sequent; none, if one of its formulas is no row.
type premise struct {
	seq  api.Seq
	none bool
}

func (p plain) in(id int) bool { return slices.Contains(p.left, id) }

func (p plain) isRow(id int) bool { return id >= 0 && id < len(p.rows) }

// is tells whether a formula is X -> Y, and X is of that kind.
func (p plain) is(id int, x api.Kind) bool {
	return p.rows[id].Kind == api.KImp && p.rows[p.rows[id].L].Kind == x
}

// fits is the second column of P9.1's table.
func (p plain) fits(k api.Rule, main int) bool {
	if !p.isRow(main) {
		return false
	}
	n := p.rows[main]
	switch k {
	case api.RuleBot:
		return n.Kind == api.KBot && p.in(main)
	case api.RuleId:
		return main == p.goal && p.in(main)
	case api.RuleAndL:
		return n.Kind == api.KAnd && p.in(main)
	case api.RuleImpAtom:
		return p.is(main, api.KAtom) && p.in(main) && p.in(n.L)
	case api.RuleImpBot:
		return p.is(main, api.KBot) && p.in(main)
	case api.RuleImpAnd:
		return p.is(main, api.KAnd) && p.in(main)
	case api.RuleImpOr:
		return p.is(main, api.KOr) && p.in(main)
	case api.RuleImpR:
		return main == p.goal && n.Kind == api.KImp
	case api.RuleAndR:
		return main == p.goal && n.Kind == api.KAnd
	case api.RuleOrL:
		return n.Kind == api.KOr && p.in(main)
	case api.RuleOrR1, api.RuleOrR2:
		return main == p.goal && n.Kind == api.KOr
	case api.RuleImpImp:
		return p.is(main, api.KImp) && p.in(main)
	}
	return false
}

// imp is the number of an implication; -1, if it is no row.
func (p plain) imp(l, r int) int {
	if l < 0 || r < 0 {
		return -1
	}
	return slices.Index(p.rows, join(api.KImp, l, r))
}

// premises is the third column of P9.1's table, of a rule that fits.
func (p plain) premises(k api.Rule, main int) []premise {
	n := p.rows[main]
	a, b := n.L, n.R
	c, d := p.rows[a].L, p.rows[a].R
	less := slices.DeleteFunc(slices.Clone(p.left), func(id int) bool { return id == main })
	from := func(goal int, left []int, more ...int) premise {
		if slices.Contains(more, -1) {
			return premise{none: true}
		}
		return premise{seq: seq(goal, append(slices.Clone(left), more...)...)}
	}
	switch k {
	case api.RuleAndL:
		return []premise{from(p.goal, less, a, b)}
	case api.RuleImpAtom:
		return []premise{from(p.goal, less, b)}
	case api.RuleImpBot:
		return []premise{from(p.goal, less)}
	case api.RuleImpAnd:
		return []premise{from(p.goal, less, p.imp(c, p.imp(d, b)))}
	case api.RuleImpOr:
		return []premise{from(p.goal, less, p.imp(c, b), p.imp(d, b))}
	case api.RuleImpR:
		return []premise{from(b, p.left, a)}
	case api.RuleAndR:
		return []premise{from(a, p.left), from(b, p.left)}
	case api.RuleOrL:
		return []premise{from(p.goal, less, a), from(p.goal, less, b)}
	case api.RuleOrR1:
		return []premise{from(a, p.left)}
	case api.RuleOrR2:
		return []premise{from(b, p.left)}
	case api.RuleImpImp:
		return []premise{from(a, less, p.imp(d, b)), from(p.goal, less, b)}
	}
	return nil
}

// choices is P9.3's Choices, and whether the sequent is open.
func (p plain) choices() (rules []api.Rule, mains []int, open bool) {
	for main := range p.rows {
		for k := api.RuleBot; k <= api.RuleOrL; k++ {
			if p.fits(k, main) {
				return nil, nil, false
			}
		}
	}
	if p.rows[p.goal].Kind == api.KOr {
		rules, mains = []api.Rule{api.RuleOrR1, api.RuleOrR2}, []int{p.goal, p.goal}
	}
	for _, main := range p.left {
		if p.is(main, api.KImp) {
			rules, mains = append(rules, api.RuleImpImp), append(mains, main)
		}
	}
	return rules, mains, true
}

// plainRight is P10.1 of the step of a number, clause by clause.
func plainRight(rows []api.Node, steps []api.Step, i int) bool {
	step := steps[i]
	p := plain{rows, leftOf(step.Seq), step.Seq.Goal}
	for _, id := range append(p.left, p.goal) {
		if !p.isRow(id) {
			return false
		}
	}
	for _, kid := range step.Kids {
		if kid < 0 || kid >= i {
			return false
		}
	}
	kidIs := func(place int, want premise, proved bool) bool {
		kid := steps[step.Kids[place]]
		return !want.none && kid.Seq == want.seq && kid.Proved == proved
	}
	if step.Proved {
		if step.Rule == api.RuleStuck || !p.fits(step.Rule, step.Main) {
			return false
		}
		l := p.premises(step.Rule, step.Main)
		ok := len(step.Kids) == len(l)
		for place := 0; ok && place < len(l); place++ {
			ok = kidIs(place, l[place], true)
		}
		return ok
	}
	switch step.Rule {
	case api.RuleAndL, api.RuleImpAtom, api.RuleImpBot, api.RuleImpAnd, api.RuleImpOr, api.RuleImpR, api.RuleAndR, api.RuleOrL:
		if !p.fits(step.Rule, step.Main) || len(step.Kids) != 1 {
			return false
		}
		return slices.ContainsFunc(p.premises(step.Rule, step.Main), func(q premise) bool { return kidIs(0, q, false) })
	case api.RuleImpImp:
		return p.fits(step.Rule, step.Main) && len(step.Kids) == 1 && kidIs(0, p.premises(step.Rule, step.Main)[1], false)
	case api.RuleStuck:
		rules, mains, open := p.choices()
		ok := step.Main == 0 && open && len(step.Kids) == len(rules)
		for place := 0; ok && place < len(rules); place++ {
			ok = kidIs(place, p.premises(rules[place], mains[place])[0], false)
		}
		return ok
	}
	return false
}

// plainCheck is P10.2, of a table that a call made.
func plainCheck(rows []api.Node, steps []api.Step) api.Errno {
	for i := range steps {
		if !plainRight(rows, steps, i) {
			return api.ErrSteps
		}
	}
	if len(steps) == 0 {
		return api.ErrSteps
	}
	return api.OK
}

// holdCheck holds Check against the plain reading, and tells what it answers.
func holdCheck(t *testing.T, x *formula.Table, steps []api.Step) api.Errno {
	t.Helper()
	rows := x.Rows()
	want := plainCheck(rows, steps)
	if e := deriv.Check(x, steps); e != want {
		t.Fatalf("Check of %s: error %d, not %d; rows %v", showAll(steps), e, want, rows)
	}
	if !slices.Equal(x.Rows(), rows) {
		t.Fatalf("Check of %s has changed the table %v", showAll(steps), rows)
	}
	return want
}

// spoilt is a list of steps with something else at one place.
func spoilt(chance *rand.Rand, steps []api.Step, rows int) []api.Step {
	l := copied(steps)
	i := chance.IntN(len(l))
	step := &l[i]
	switch chance.IntN(10) {
	case 0:
		step.Proved = !step.Proved
	case 1:
		step.Rule = api.Rule(chance.IntN(17) - 1)
	case 2:
		step.Main = chance.IntN(rows+2) - 1
	case 3:
		step.Seq.Goal = chance.IntN(rows+2) - 1
	case 4:
		step.Seq.Left[0] ^= 1 << chance.IntN(min(rows+1, 64))
	case 5:
		if len(step.Kids) > 0 {
			step.Kids[chance.IntN(len(step.Kids))] = chance.IntN(len(l)+2) - 1
		}
	case 6:
		step.Kids = append(step.Kids, chance.IntN(len(l)+1)-1)
	case 7:
		if len(step.Kids) > 0 {
			step.Kids = step.Kids[1:]
		}
	case 8:
		slices.Reverse(step.Kids)
	case 9:
		j := chance.IntN(len(l))
		l[i], l[j] = l[j], l[i]
	}
	return l
}

// TestPlainChance: P10.1 and P10.2, steps that decide a sequent by chance, as they are and with something else at a place or two, and with a table that is cut or full: against the plain reading.
func TestPlainChance(t *testing.T) {
	chance := newChance(1)
	seen := map[api.Errno]int{}
	for range 4000 {
		x, steps := someSteps(t, chance, 16)
		if steps == nil {
			continue
		}
		if e := holdCheck(t, x, steps); e != api.OK {
			t.Fatalf("%s: error %d", showAll(steps), e)
		}
		for range 8 {
			l := spoilt(chance, steps, x.Len())
			if chance.IntN(3) == 0 {
				l = spoilt(chance, l, x.Len())
			}
			seen[holdCheck(t, x, l)]++
		}
		less := x.Copy()
		less.Cut(x.Len() - 1 - chance.IntN(2))
		seen[holdCheck(t, less, steps)]++
	}
	if seen[api.OK] < 1000 || seen[api.ErrSteps] < 10000 {
		t.Errorf("errors that were seen: %v", seen)
	}
}

// shapes are rows with formulas of each shape that the rules tell apart, of two atoms and false: 3 that are not joined, 27 that are joined of these, and implications that have one of both sorts on each side.
func shapes() []api.Node {
	rows := []api.Node{atom("p"), atom("q"), bot()}
	for _, k := range kinds() {
		for l := range 3 {
			for r := range 3 {
				rows = append(rows, join(k, l, r))
			}
		}
	}
	for l := 3; l < 30; l++ {
		rows = append(rows, join(api.KImp, l, l%3))
		rows = append(rows, join(api.KImp, l%3, l))
	}
	return rows
}

// TestPlainRules: P10.1, every rule that fits a sequent by chance, proved and refuted, with the premises' steps as kids: none, each alone, each two in both orders: against the plain reading.
func TestPlainRules(t *testing.T) {
	rows := shapes()
	x := made(t, rows...)
	chance := newChance(2)
	seen := map[api.Rule]int{}
	for range 3000 {
		s := someSeq(chance, len(rows), 3)
		s.Left[0] |= chance.Uint64N(4) // atoms, without which no rule is of p -> B
		y := x.Copy()
		p := plain{rows, leftOf(s), s.Goal}
		for k := api.RuleBot; k <= api.RuleImpImp; k++ {
			for _, main := range append(leftOf(s), s.Goal) {
				if !p.fits(k, main) {
					continue
				}
				holdPremises(t, y, s, k, main, p.premises(k, main), seen)
				y.Cut(len(rows))
			}
		}
	}
	for k := api.RuleBot; k <= api.RuleImpImp; k++ {
		if seen[k] < 10 || seen[-k] < 10 && k != api.RuleBot && k != api.RuleId && k != api.RuleOrR1 && k != api.RuleOrR2 {
			t.Errorf("rule %d: %d lists with a proved one were right, %d with a refuted one", k, seen[k], seen[-k])
		}
	}
}

// holdPremises decides each premise, and holds steps that stand on them, by any kids, against the plain reading; seen counts those that are right, of what is refuted by the rule below 0.
func holdPremises(t *testing.T, x *formula.Table, s api.Seq, k api.Rule, main int, premises []premise, seen map[api.Rule]int) {
	t.Helper()
	f := &finder{t: t, x: x, seen: map[api.Seq]int{}, budget: 40}
	ends := [][]int{nil}
	var each []int
	for _, q := range premises {
		if q.none {
			continue
		}
		kid, ok := f.decide(q.seq)
		if !ok {
			return
		}
		each = append(each, kid)
	}
	for _, one := range each {
		ends = append(ends, []int{one})
		for _, two := range each {
			ends = append(ends, []int{one, two})
		}
	}
	for _, kids := range ends {
		if e := holdCheck(t, x, append(copied(f.steps), proved(s, k, main, kids...))); e == api.OK {
			seen[k]++
		}
		if e := holdCheck(t, x, append(copied(f.steps), refuted(s, k, main, kids...))); e == api.OK {
			seen[-k]++
		}
	}
}
