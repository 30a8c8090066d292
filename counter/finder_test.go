package counter_test

import (
	"math/rand/v2"
	"testing"

	"dictum/api"
	"dictum/formula"
	"dictum/rule"
)

// finder decides sequents as P11.2 says, and keeps the steps. With a chance it takes any rule that may be tried first, where P11.2 takes the one that Apply answers, and decides by chance again what it has decided: steps that are right, though no search finds them.
type finder struct {
	t      *testing.T
	x      *formula.Table
	chance *rand.Rand
	steps  []api.Step
	seen   map[api.Seq]int
	budget int
}

// find answers the steps of a sequent; none, if there would be more than budget of them, or a formula has no room.
func find(t *testing.T, x *formula.Table, s api.Seq, chance *rand.Rand, budget int) []api.Step {
	f := &finder{t: t, x: x, chance: chance, seen: map[api.Seq]int{}, budget: budget}
	rows := x.Len()
	if _, ok := f.decide(s); !ok {
		x.Cut(rows)
		return nil
	}
	return f.steps
}

// put puts a step behind the others.
func (f *finder) put(step api.Step) (int, bool) {
	f.seen[step.Seq] = len(f.steps)
	f.steps = append(f.steps, step)
	return len(f.steps) - 1, true
}

// premises makes premises, and tells whether they have room.
func (f *finder) premises(s api.Seq, k api.Rule, main int) ([]api.Seq, bool) {
	l, e := rule.Premises(f.x, s, k, main)
	if e != api.OK && e != api.ErrForms {
		f.t.Fatalf("rule %d of %d: error %d", k, main, e)
	}
	return l, e == api.OK
}

// first is the rule that is tried first, and its main.
func (f *finder) first(s api.Seq) (api.Rule, int) {
	k, main, _ := rule.Apply(f.x, s)
	if f.chance == nil || k == api.RuleStuck {
		return k, main
	}
	many := 0
	for _, id := range append(leftOf(s), s.Goal) {
		for r := api.RuleBot; r <= api.RuleOrL; r++ {
			if ok, _ := rule.Fits(f.x, s, r, id); ok {
				if many++; f.chance.IntN(many) == 0 {
					k, main = r, id
				}
			}
		}
	}
	return k, main
}

// decide answers the number of the step of a sequent, and whether there was room for it.
func (f *finder) decide(s api.Seq) (int, bool) {
	if i, ok := f.seen[s]; ok && (f.chance == nil || f.chance.IntN(3) > 0) {
		return i, true
	}
	if f.budget--; f.budget < 0 {
		return 0, false
	}
	k, main := f.first(s)
	if k == api.RuleStuck {
		return f.open(s)
	}
	l, ok := f.premises(s, k, main)
	if !ok {
		return 0, false
	}
	if f.chance != nil && len(l) == 2 && f.chance.IntN(2) == 0 { // of two that are refuted either will do
		if kid, room := f.decide(l[1]); !room || !f.steps[kid].Proved {
			if !room {
				return 0, false
			}
			return f.put(refuted(s, k, main, kid))
		}
	}
	var kids []int
	for _, q := range l {
		kid, room := f.decide(q)
		if !room {
			return 0, false
		}
		if !f.steps[kid].Proved {
			return f.put(refuted(s, k, main, kid))
		}
		kids = append(kids, kid)
	}
	return f.put(proved(s, k, main, kids...))
}

// open decides an open sequent by its choices.
func (f *finder) open(s api.Seq) (int, bool) {
	rules, mains, _ := rule.Choices(f.x, s)
	var kids []int
	for i, k := range rules {
		l, ok := f.premises(s, k, mains[i])
		if !ok {
			return 0, false
		}
		one, ok := f.decide(l[0])
		if !ok {
			return 0, false
		}
		if !f.steps[one].Proved {
			kids = append(kids, one)
			continue
		}
		if k != api.RuleImpImp {
			return f.put(proved(s, k, mains[i], one))
		}
		two, ok := f.decide(l[1])
		if !ok {
			return 0, false
		}
		if f.steps[two].Proved {
			return f.put(proved(s, k, mains[i], one, two))
		}
		return f.put(refuted(s, k, mains[i], two))
	}
	return f.put(stuck(s, kids...))
}

// someSteps are a table and right steps by chance; none, if they would be too many.
func someSteps(t *testing.T, chance *rand.Rand, many int) (*formula.Table, []api.Step) {
	t.Helper()
	x := made(t, someRows(chance, 3+chance.IntN(many), 1+chance.IntN(20), 5)...)
	var by *rand.Rand
	if chance.IntN(3) > 0 {
		by = chance
	}
	return x, find(t, x, someSeq(chance, x.Len(), 4), by, 150)
}

// behind are the steps of two lists, one behind the other.
func behind(a, b []api.Step) []api.Step {
	many := len(a)
	l := copied(a)
	for _, step := range copied(b) {
		for i := range step.Kids {
			step.Kids[i] += many
		}
		l = append(l, step)
	}
	return l
}
