package types_test

import (
	"math/rand/v2"
	"testing"

	"dictum/api"
	"dictum/types"
)

// prover makes proofs by chance from the rows of a table; budget is how many parts it may still begin.
type prover struct {
	chance *rand.Rand
	rows   []api.Node
	names  []string
	budget int
}

func (p *prover) name() string { return p.names[p.chance.IntN(len(p.names))] }

// row is a row by chance of those that are so, if there is one.
func (p *prover) row(is func(n api.Node) bool) (int, bool) {
	from := p.chance.IntN(len(p.rows))
	for i := range p.rows {
		if id := (from + i) % len(p.rows); is(p.rows[id]) {
			return id, true
		}
	}
	return 0, false
}

// variable is a name that stands for a formula, if there is one.
func variable(hyps []api.Hyp, form int) (api.Term, bool) {
	seen := map[string]bool{}
	for i := len(hyps) - 1; i >= 0; i-- {
		if h := hyps[i]; !seen[h.Name] && h.Form == form {
			return v(h.Name), true
		}
		seen[hyps[i].Name] = true
	}
	return api.Term{}, false
}

// proof is a term that is checked against a formula, or told to be of it, if one was found.
func (p *prover) proof(hyps []api.Hyp, form int, levels int, told bool) (api.Term, bool) {
	p.budget--
	if levels == 0 || p.budget < 0 {
		return api.Term{}, false
	}
	if x, ok := variable(hyps, form); ok && p.chance.IntN(3) > 0 {
		return x, true
	}
	for range 4 {
		way := p.used
		if !told && p.chance.IntN(2) == 0 {
			way = p.made
		}
		if x, ok := way(hyps, form, levels-1, told); ok {
			return x, true
		}
	}
	return variable(hyps, form)
}

// made is a proof of the kinds that are checked alone.
func (p *prover) made(hyps []api.Hyp, form int, levels int, _ bool) (api.Term, bool) {
	n := p.rows[form]
	switch n.Kind {
	case api.KAnd:
		a, left := p.proof(hyps, n.L, levels, false)
		b, right := p.proof(hyps, n.R, levels, false)
		return pair(a, b), left && right
	case api.KOr:
		if p.chance.IntN(2) == 0 {
			a, ok := p.proof(hyps, n.L, levels, false)
			return inl(a), ok
		}
		a, ok := p.proof(hyps, n.R, levels, false)
		return inr(a), ok
	case api.KImp:
		name := p.name()
		a, ok := p.proof(with(hyps, name, n.L), n.R, levels, false)
		return lam(name, a), ok
	}
	id, ok := p.row(func(n api.Node) bool { return n.Kind == api.KBot })
	if !ok {
		return api.Term{}, false
	}
	a, ok := p.proof(hyps, id, levels, true)
	return abort(a), ok
}

// used is a proof of the kinds that are told.
func (p *prover) used(hyps []api.Hyp, form int, levels int, told bool) (api.Term, bool) {
	switch p.chance.IntN(6) {
	case 0:
		a, ok := p.proof(hyps, form, levels, false)
		return the(a, form), ok
	case 1:
		id, ok := p.row(func(n api.Node) bool { return n.Kind == api.KAnd && n.L == form })
		return p.half(api.TFst, hyps, id, levels, ok)
	case 2:
		id, ok := p.row(func(n api.Node) bool { return n.Kind == api.KAnd && n.R == form })
		return p.half(api.TSnd, hyps, id, levels, ok)
	case 3:
		return p.applied(hyps, form, levels)
	case 4:
		return p.parted(hyps, form, levels, told)
	}
	id, name := p.chance.IntN(len(p.rows)), p.name()
	a, first := p.proof(hyps, id, levels, true)
	b, second := p.proof(with(hyps, name, id), form, levels, told)
	return let(name, a, b), first && second
}

func (p *prover) half(k api.TermKind, hyps []api.Hyp, id int, levels int, ok bool) (api.Term, bool) {
	if !ok {
		return api.Term{}, false
	}
	a, ok := p.proof(hyps, id, levels, true)
	return of(k, a), ok
}

func (p *prover) applied(hyps []api.Hyp, form int, levels int) (api.Term, bool) {
	id, ok := p.row(func(n api.Node) bool { return n.Kind == api.KImp && n.R == form })
	if !ok {
		return api.Term{}, false
	}
	a, first := p.proof(hyps, id, levels, true)
	b, second := p.proof(hyps, p.rows[id].L, levels, false)
	return app(a, b), first && second
}

func (p *prover) parted(hyps []api.Hyp, form int, levels int, told bool) (api.Term, bool) {
	id, ok := p.row(func(n api.Node) bool { return n.Kind == api.KOr })
	if !ok {
		return api.Term{}, false
	}
	name, other := p.name(), p.name()
	a, first := p.proof(hyps, id, levels, true)
	b, second := p.proof(with(hyps, name, p.rows[id].L), form, levels, told)
	c, third := p.proof(with(hyps, other, p.rows[id].R), form, levels, told)
	return choose(a, name, b, other, c), first && second && third
}

// proven is a table, hypotheses, a term, and a formula that it is a proof of.
type proven struct {
	rows []api.Node
	hyps []api.Hyp
	x    api.Term
	form int
}

// someProof is one by chance; told tells whether it is told.
func someProof(chance *rand.Rand, told bool) proven {
	for {
		p := &prover{chance: chance, rows: someRows(chance, 3+chance.IntN(12), 3), names: []string{"x", "y", "z", "u"}, budget: 300}
		c := proven{rows: p.rows, hyps: someHyps(chance, 1+chance.IntN(6), p.names, len(p.rows)), form: chance.IntN(len(p.rows))}
		var ok bool
		if c.x, ok = p.proof(c.hyps, c.form, 2+chance.IntN(6), told); ok && (len(c.x.Sub) > 0 || chance.IntN(10) == 0) {
			return c
		}
	}
}

// turned is a term of which one node, by chance, is another one.
func turned(chance *rand.Rand, x api.Term, forms int) api.Term {
	x = clone(x)
	var places []*api.Term
	var walk func(x *api.Term)
	walk = func(x *api.Term) {
		places = append(places, x)
		for i := range x.Sub {
			walk(&x.Sub[i])
		}
	}
	walk(&x)
	at := places[chance.IntN(len(places))]
	switch chance.IntN(4) {
	case 0:
		*at = someTerm(chance, 1+chance.IntN(3), []string{"x", "y", "z", "u", "w"}, forms)
	case 1:
		if at.Name != "" {
			at.Name = "w"
		}
		if at.Kind == api.TThe {
			at.Form = chance.IntN(forms)
		}
	case 2:
		if len(at.Sub) == 1 && at.Name == "" && at.Kind != api.TThe {
			at.Kind = heads()[chance.IntN(len(heads()))]
		}
	case 3:
		if len(at.Sub) > 1 {
			at.Sub[0], at.Sub[1] = at.Sub[1], at.Sub[0]
		}
	}
	return x
}

// TestProofs: proofs are taken at their formulas, and told if they are made so; what is turned in them is answered as the plain reading does.
func TestProofs(t *testing.T) {
	chance := newChance(2)
	m := counts{}
	kinds := map[api.TermKind]int{}
	for i := range 12000 {
		c := someProof(chance, i%2 == 0)
		f := made(t, c.rows...)
		takes(t, f, c.hyps, c.x, c.form)
		if i%2 == 0 {
			tells(t, f, c.hyps, c.x, c.form)
		}
		kinds[c.x.Kind]++
		m.asPlain(t, f, c.hyps, c.x, c.form, chance.IntN(f.Len()))
		for range 4 {
			m.asPlain(t, f, c.hyps, turned(chance, c.x, f.Len()+1), c.form, chance.IntN(f.Len()))
		}
	}
	m.enough(t, 100, api.OK, api.ErrType, api.ErrName, api.ErrUnsaid, api.ErrForm)
	for k := api.TVar; k <= api.TLet; k++ {
		if kinds[k] < 100 {
			t.Errorf("%d proofs of kind %d", kinds[k], k)
		}
	}
}

// TestWayLeadsThere: P13.3, the way that Where answers leads to a part of the term, and stands beside an error alone.
func TestWayLeadsThere(t *testing.T) {
	chance := newChance(3)
	deepest := 0
	for range 8000 {
		c := someProof(chance, false)
		f := made(t, c.rows...)
		x := turned(chance, c.x, f.Len()+1)
		way, e := types.Where(f, c.hyps, x, c.form)
		if e == api.OK && len(way) > 0 {
			t.Fatalf("a way %v beside no error", way)
		}
		for _, place := range way {
			if place < 0 || place >= len(x.Sub) {
				t.Fatalf("the way %v of %s", way, show(x))
			}
			x = x.Sub[place]
		}
		deepest = max(deepest, len(way))
	}
	if deepest < 4 {
		t.Errorf("no way of more than %d places", deepest)
	}
}
