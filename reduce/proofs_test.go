package reduce_test

import (
	"math/rand/v2"
	"slices"

	"dictum/api"
)

// prover makes proofs by chance from the rows of a table; budget is how many parts it may still begin.
type prover struct {
	chance *rand.Rand
	rows   []api.Node
	names  []string
	budget int
}

func (p *prover) name() string { return p.names[p.chance.IntN(len(p.names))] }

// row is a row by chance of those that are so, if there is one.
func (p *prover) row(is func(n api.Node) bool) (int, bool) {
	from := p.chance.IntN(len(p.rows))
	for i := range p.rows {
		if id := (from + i) % len(p.rows); is(p.rows[id]) {
			return id, true
		}
	}
	return 0, false
}

// variable is a name that stands for a formula, if there is one.
func variable(hyps []api.Hyp, form int) (api.Term, bool) {
	seen := map[string]bool{}
	for i := len(hyps) - 1; i >= 0; i-- {
		if h := hyps[i]; !seen[h.Name] && h.Form == form {
			return v(h.Name), true
		}
		seen[hyps[i].Name] = true
	}
	return api.Term{}, false
}

// proof is a term that is checked against a formula, or told to be of it, if one was found.
func (p *prover) proof(hyps []api.Hyp, form int, levels int, told bool) (api.Term, bool) {
	p.budget--
	if levels == 0 || p.budget < 0 {
		return api.Term{}, false
	}
	if x, ok := variable(hyps, form); ok && p.chance.IntN(3) > 0 {
		return x, true
	}
	for range 4 {
		way := p.used
		if !told && p.chance.IntN(2) == 0 {
			way = p.made
		}
		if x, ok := way(hyps, form, levels-1, told); ok {
			return x, true
		}
	}
	return variable(hyps, form)
}

// made is a proof of the kinds that are checked alone.
func (p *prover) made(hyps []api.Hyp, form int, levels int, _ bool) (api.Term, bool) {
	n := p.rows[form]
	switch n.Kind {
	case api.KAnd:
		a, left := p.proof(hyps, n.L, levels, false)
		b, right := p.proof(hyps, n.R, levels, false)
		return pair(a, b), left && right
	case api.KOr:
		if p.chance.IntN(2) == 0 {
			a, ok := p.proof(hyps, n.L, levels, false)
			return inl(a), ok
		}
		a, ok := p.proof(hyps, n.R, levels, false)
		return inr(a), ok
	case api.KImp:
		name := p.name()
		a, ok := p.proof(with(hyps, name, n.L), n.R, levels, false)
		return lam(name, a), ok
	}
	id, ok := p.row(func(n api.Node) bool { return n.Kind == api.KBot })
	if !ok {
		return api.Term{}, false
	}
	a, ok := p.proof(hyps, id, levels, true)
	return abort(a), ok
}

// used is a proof of the kinds that are told.
func (p *prover) used(hyps []api.Hyp, form int, levels int, told bool) (api.Term, bool) {
	switch p.chance.IntN(6) {
	case 0:
		a, ok := p.proof(hyps, form, levels, false)
		return the(a, form), ok
	case 1:
		id, ok := p.row(func(n api.Node) bool { return n.Kind == api.KAnd && n.L == form })
		return p.half(api.TFst, hyps, id, levels, ok)
	case 2:
		id, ok := p.row(func(n api.Node) bool { return n.Kind == api.KAnd && n.R == form })
		return p.half(api.TSnd, hyps, id, levels, ok)
	case 3:
		return p.applied(hyps, form, levels)
	case 4:
		return p.parted(hyps, form, levels, told)
	}
	id, name := p.chance.IntN(len(p.rows)), p.name()
	a, first := p.proof(hyps, id, levels, true)
	b, second := p.proof(with(hyps, name, id), form, levels, told)
	return let(name, a, b), first && second
}

func (p *prover) half(k api.TermKind, hyps []api.Hyp, id int, levels int, ok bool) (api.Term, bool) {
	if !ok {
		return api.Term{}, false
	}
	a, ok := p.proof(hyps, id, levels, true)
	return of(k, a), ok
}

func (p *prover) applied(hyps []api.Hyp, form int, levels int) (api.Term, bool) {
	id, ok := p.row(func(n api.Node) bool { return n.Kind == api.KImp && n.R == form })
	if !ok {
		return api.Term{}, false
	}
	a, first := p.proof(hyps, id, levels, true)
	b, second := p.proof(hyps, p.rows[id].L, levels, false)
	return app(a, b), first && second
}

func (p *prover) parted(hyps []api.Hyp, form int, levels int, told bool) (api.Term, bool) {
	id, ok := p.row(func(n api.Node) bool { return n.Kind == api.KOr })
	if !ok {
		return api.Term{}, false
	}
	name, other := p.name(), p.name()
	a, first := p.proof(hyps, id, levels, true)
	b, second := p.proof(with(hyps, name, p.rows[id].L), form, levels, told)
	c, third := p.proof(with(hyps, other, p.rows[id].R), form, levels, told)
	return choose(a, name, b, other, c), first && second && third
}

// proven is a table, hypotheses, a term, and a formula that it is a proof of.
type proven struct {
	rows []api.Node
	hyps []api.Hyp
	x    api.Term
	form int
}

// someProof is one by chance; told tells whether it is told.
func someProof(chance *rand.Rand, told bool) proven {
	for {
		p := &prover{chance: chance, rows: someRows(chance, 3+chance.IntN(12), 3), names: []string{"x", "y", "z", "u"}, budget: 300}
		c := proven{rows: p.rows, hyps: someHyps(chance, 1+chance.IntN(6), p.names, len(p.rows)), form: chance.IntN(len(p.rows))}
		var ok bool
		if c.x, ok = p.proof(c.hyps, c.form, 2+chance.IntN(6), told); ok && (len(c.x.Sub) > 0 || chance.IntN(10) == 0) {
			return c
		}
	}
}

func with(hyps []api.Hyp, name string, form int) []api.Hyp {
	return append(slices.Clone(hyps), hyp(name, form))
}
