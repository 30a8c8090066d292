package translate_test

import (
	"math/rand/v2"
	"testing"

	"dictum/api"
	"dictum/deriv"
	"dictum/formula"
	"dictum/rule"
	"dictum/search"
)

// prover makes derivations by chance: of a sequent that is proved it takes any rule with premises that are, where the search takes the first one.
type prover struct {
	table  *formula.Table
	chance *rand.Rand
	steps  []api.Step
	seen   map[api.Seq]int
	known  map[api.Seq]bool
	budget int
}

// provable tells whether the search proves a sequent soon enough.
func (p *prover) provable(s api.Seq) bool {
	is, ok := p.known[s]
	if !ok {
		found, e := search.Run(p.table, s, 300)
		is = found.Proved && e == api.OK
		p.known[s] = is
	}
	return is
}

// option is a rule that would do.
type option struct {
	rule     api.Rule
	main     int
	premises []api.Seq
}

// options are all rules that fit a sequent with premises that are proved.
func (p *prover) options(s api.Seq) []option {
	var l []option
	for _, main := range append(leftOf(s), s.Goal) {
		for k := api.RuleBot; k <= api.RuleImpImp; k++ {
			premises, e := rule.Premises(p.table, s, k, main)
			all := e == api.OK
			for _, premise := range premises {
				all = all && p.provable(premise)
			}
			if all {
				l = append(l, option{k, main, premises})
			}
		}
	}
	return l
}

// prove puts steps that prove a sequent behind the others, and answers the last one's number, if that was not too much. A sequent may get more steps than one.
func (p *prover) prove(s api.Seq) (int, bool) {
	if at, ok := p.seen[s]; ok && p.chance.IntN(4) > 0 {
		return at, true
	}
	p.budget--
	l := p.options(s)
	if p.budget < 0 || len(l) == 0 {
		return 0, false
	}
	o := l[p.chance.IntN(len(l))]
	var kids []int
	for _, premise := range o.premises {
		kid, ok := p.prove(premise)
		if !ok {
			return 0, false
		}
		kids = append(kids, kid)
	}
	p.seen[s] = len(p.steps)
	p.steps = append(p.steps, proved(s, o.rule, o.main, kids...))
	return len(p.steps) - 1, true
}

// someSteps are a table and right steps by chance, found by the search or by a prover; none, if they would be too many. Those of a search are proved and refuted ones.
func someSteps(t *testing.T, chance *rand.Rand) (*formula.Table, []api.Step) {
	t.Helper()
	f := made(t, someRows(chance, 3+chance.IntN(16), 1+chance.IntN(20), 3)...)
	s := someSeq(chance, f.Len(), 4)
	if chance.IntN(2) == 0 {
		found, _ := search.Run(f, s, 100)
		return f, found.Steps
	}
	p := &prover{table: f, chance: chance, seen: map[api.Seq]int{}, known: map[api.Seq]bool{}, budget: 60}
	if !p.provable(s) {
		return f, nil
	}
	if _, ok := p.prove(s); !ok {
		return f, nil
	}
	if e := deriv.Check(f, p.steps); e != api.OK {
		t.Fatalf("error %d of %s", e, showSteps(p.steps))
	}
	return f, p.steps
}
