package hilbert_test

import (
	"math/rand/v2"
	"testing"

	"dictum/api"
	"dictum/formula"
)

// someLines are right lines by chance, and their hypotheses; the table gets rows for axioms.
func someLines(t *testing.T, chance *rand.Rand, f *formula.Table, many int) ([]int, []api.Line) {
	t.Helper()
	var hyps []int
	for range chance.IntN(6) {
		hyps = append(hyps, chance.IntN(f.Len()))
	}
	p := newPlain(t, f.Rows())
	var lines []api.Line
	for len(lines) < many {
		if l := following(p.rows, lines); len(l) > 0 && chance.IntN(3) > 0 {
			lines = append(lines, l[chance.IntN(len(l))])
		} else if len(hyps) > 0 && chance.IntN(2) == 0 {
			lines = append(lines, hyp(hyps[chance.IntN(len(hyps))]))
		} else {
			lines = append(lines, p.someAxiom(chance, lines))
		}
	}
	for _, n := range p.rows[f.Len():] {
		if _, e := f.Put(n); e != api.OK {
			t.Fatal(e)
		}
	}
	return hyps, lines
}

// following are all lines of LineMP that follow of others.
func following(rows []api.Node, lines []api.Line) []api.Line {
	var out []api.Line
	for a, major := range lines {
		for b, minor := range lines {
			if n := rows[major.Form]; n.Kind == api.KImp && n.L == minor.Form {
				out = append(out, mp(n.R, a, b))
			}
		}
	}
	return out
}

// someAxiom is one by chance, often of a formula that a line has, so that more follows of it.
func (p *plain) someAxiom(chance *rand.Rand, lines []api.Line) api.Line {
	some := func() int {
		if len(lines) > 0 && chance.IntN(2) == 0 {
			return lines[chance.IntN(len(lines))].Form
		}
		return chance.IntN(min(len(p.rows), 8))
	}
	k := axiomKinds()[chance.IntN(9)]
	by := stand{"A": some(), "B": some(), "C": some()}
	return line(k, p.made(schemes()[k], by))
}

// prover makes terms by chance from the rows of a table; budget is how many parts it may still begin.
type prover struct {
	chance *rand.Rand
	rows   []api.Node
	budget int
}

func (p *prover) name() string { return string(rune('u' + p.chance.IntN(4))) }

// row is a row by chance of those that are so, if there is one.
func (p *prover) row(is func(n api.Node) bool) (int, bool) {
	from := p.chance.IntN(len(p.rows))
	for i := range p.rows {
		if id := (from + i) % len(p.rows); is(p.rows[id]) {
			return id, true
		}
	}
	return 0, false
}

func of(k api.TermKind, parts ...api.Term) api.Term { return api.Term{Kind: k, Sub: parts} }

func v(name string) api.Term { return api.Term{Kind: api.TVar, Name: name} }

func the(a api.Term, form int) api.Term {
	return api.Term{Kind: api.TThe, Form: form, Sub: []api.Term{a}}
}

func lam(name string, a api.Term) api.Term {
	return api.Term{Kind: api.TLam, Name: name, Sub: []api.Term{a}}
}

func let(name string, a, b api.Term) api.Term {
	return api.Term{Kind: api.TLet, Name: name, Sub: []api.Term{a, b}}
}

func choose(a api.Term, name string, b api.Term, other string, c api.Term) api.Term {
	return api.Term{Kind: api.TCase, Name: name, Other: other, Sub: []api.Term{a, b, c}}
}

func more(hyps []api.Hyp, name string, form int) []api.Hyp {
	return append(hyps[:len(hyps):len(hyps)], named(name, form))
}

// variable is a name that stands for a formula, if there is one.
func variable(hyps []api.Hyp, form int) (api.Term, bool) {
	seen := map[string]bool{}
	for i := len(hyps) - 1; i >= 0; i-- {
		if h := hyps[i]; !seen[h.Name] && h.Form == form {
			return v(h.Name), true
		}
		seen[hyps[i].Name] = true
	}
	return api.Term{}, false
}

// proof is a term that is checked against a formula, or told to be of it, if one was found.
func (p *prover) proof(hyps []api.Hyp, form int, levels int, told bool) (api.Term, bool) {
	p.budget--
	if levels == 0 || p.budget < 0 {
		return api.Term{}, false
	}
	if x, ok := variable(hyps, form); ok && p.chance.IntN(3) > 0 {
		return x, true
	}
	for range 4 {
		way := p.used
		if !told && p.chance.IntN(2) == 0 {
			way = p.made
		}
		if x, ok := way(hyps, form, levels-1, told); ok {
			return x, true
		}
	}
	return variable(hyps, form)
}

// made is a proof of the kinds that are checked alone.
func (p *prover) made(hyps []api.Hyp, form int, levels int, _ bool) (api.Term, bool) {
	n := p.rows[form]
	switch n.Kind {
	case api.KAnd:
		a, left := p.proof(hyps, n.L, levels, false)
		b, right := p.proof(hyps, n.R, levels, false)
		return of(api.TPair, a, b), left && right
	case api.KOr:
		if p.chance.IntN(2) == 0 {
			a, ok := p.proof(hyps, n.L, levels, false)
			return of(api.TInl, a), ok
		}
		a, ok := p.proof(hyps, n.R, levels, false)
		return of(api.TInr, a), ok
	case api.KImp:
		name := p.name()
		a, ok := p.proof(more(hyps, name, n.L), n.R, levels, false)
		return lam(name, a), ok
	}
	return p.from(api.TAbort, hyps, levels, func(n api.Node) bool { return n.Kind == api.KBot })
}

// from is a proof by a part that is told, of one of the rows that are so.
func (p *prover) from(k api.TermKind, hyps []api.Hyp, levels int, is func(n api.Node) bool) (api.Term, bool) {
	id, ok := p.row(is)
	if !ok {
		return api.Term{}, false
	}
	a, ok := p.proof(hyps, id, levels, true)
	return of(k, a), ok
}

// used is a proof of the kinds that are told.
func (p *prover) used(hyps []api.Hyp, form int, levels int, told bool) (api.Term, bool) {
	switch p.chance.IntN(6) {
	case 0:
		a, ok := p.proof(hyps, form, levels, false)
		return the(a, form), ok
	case 1:
		return p.from(api.TFst, hyps, levels, func(n api.Node) bool { return n.Kind == api.KAnd && n.L == form })
	case 2:
		return p.from(api.TSnd, hyps, levels, func(n api.Node) bool { return n.Kind == api.KAnd && n.R == form })
	case 3:
		return p.applied(hyps, form, levels)
	case 4:
		return p.parted(hyps, form, levels, told)
	}
	id, name := p.chance.IntN(len(p.rows)), p.name()
	a, first := p.proof(hyps, id, levels, true)
	b, second := p.proof(more(hyps, name, id), form, levels, told)
	return let(name, a, b), first && second
}

func (p *prover) applied(hyps []api.Hyp, form int, levels int) (api.Term, bool) {
	id, ok := p.row(func(n api.Node) bool { return n.Kind == api.KImp && n.R == form })
	if !ok {
		return api.Term{}, false
	}
	a, first := p.proof(hyps, id, levels, true)
	b, second := p.proof(hyps, p.rows[id].L, levels, false)
	return of(api.TApp, a, b), first && second
}

func (p *prover) parted(hyps []api.Hyp, form int, levels int, told bool) (api.Term, bool) {
	id, ok := p.row(func(n api.Node) bool { return n.Kind == api.KOr })
	if !ok {
		return api.Term{}, false
	}
	name, other := p.name(), p.name()
	a, first := p.proof(hyps, id, levels, true)
	b, second := p.proof(more(hyps, name, p.rows[id].L), form, levels, told)
	c, third := p.proof(more(hyps, other, p.rows[id].R), form, levels, told)
	return choose(a, name, b, other, c), first && second && third
}

// proven is a table, hypotheses, a term, and a formula that it is a proof of.
type proven struct {
	rows []api.Node
	hyps []api.Hyp
	x    api.Term
	form int
}

// someProof is one by chance, of up to so many levels.
func someProof(chance *rand.Rand, levels int) proven {
	for {
		p := &prover{chance: chance, rows: someRows(chance, 3+chance.IntN(12), 3), budget: 300}
		c := proven{rows: p.rows, form: chance.IntN(len(p.rows))}
		for range 1 + chance.IntN(6) {
			c.hyps = append(c.hyps, named(p.name(), chance.IntN(len(p.rows))))
		}
		var ok bool
		if c.x, ok = p.proof(c.hyps, c.form, 2+chance.IntN(levels-1), false); ok && (len(c.x.Sub) > 0 || chance.IntN(20) == 0) {
			return c
		}
	}
}

// forms are the formulas of hypotheses.
func forms(hyps []api.Hyp) []int {
	var out []int
	for _, h := range hyps {
		out = append(out, h.Form)
	}
	return out
}
