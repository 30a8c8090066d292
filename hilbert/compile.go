package hilbert

import (
	"dictum/api"
	"dictum/formula"
)

// told stands for the formula of a part that layer 13 tells: it is that of the part's last line.
const told = -1

// compiler makes proofs out of terms that layer 13 takes: which formula each name stands for where it is now.
type compiler struct {
	*maker
	stands map[string]int
}

func newCompiler(t *formula.Table, hyps []api.Hyp) *compiler {
	c := &compiler{maker: newMaker(t), stands: make(map[string]int, len(hyps))}
	for _, h := range hyps {
		c.stands[h.Name] = h.Form // the last one with a name takes the place of those ahead
	}
	return c
}

// proofOf answers the proof of a term of a formula (P16.4).
func (c *compiler) proofOf(x api.Term, goal int) *proof {
	if c.e != api.OK {
		return c.begin()
	}
	left, right := c.parts(goal)
	switch x.Kind {
	case api.TVar:
		return c.name(x)
	case api.TLam:
		return c.under(x.Name, left, x.Sub[0], right)
	case api.TApp:
		return c.app(x)
	case api.TPair:
		return c.pair(x, left, right)
	case api.TFst:
		return c.half(x, api.LineFst)
	case api.TSnd:
		return c.half(x, api.LineSnd)
	case api.TInl:
		return c.proofOf(x.Sub[0], left).on(api.LineInl, left, right)
	case api.TInr:
		return c.proofOf(x.Sub[0], right).on(api.LineInr, left, right)
	case api.TAbort:
		return c.proofOf(x.Sub[0], told).on(api.LineBot, goal)
	case api.TCase:
		return c.branch(x, goal)
	case api.TLet:
		return c.let(x, goal)
	}
	return c.proofOf(x.Sub[0], x.Form) // TThe
}

func (c *compiler) name(x api.Term) *proof {
	p := c.begin()
	p.line(api.Line{Kind: api.LineHyp, Form: c.stands[x.Name]})
	return p
}

// under answers the proof of h -> F, out of a term of F in which a name stands for h.
func (c *compiler) under(name string, h int, x api.Term, goal int) *proof {
	was := c.stands[name]
	c.stands[name] = h
	p := c.proofOf(x, goal)
	c.stands[name] = was // of a name that stood for nothing any number will do, as layer 13 lets nobody ask
	return c.deduced(p.lines, h)
}

func (c *compiler) app(x api.Term) *proof {
	p := c.proofOf(x.Sub[0], told)
	does := p.last()
	given, _ := c.parts(p.formOf(does))
	p.mp(does, p.join(c.proofOf(x.Sub[1], given)))
	return p
}

func (c *compiler) pair(x api.Term, left int, right int) *proof {
	p := c.proofOf(x.Sub[0], left)
	first := p.last()
	second := p.join(c.proofOf(x.Sub[1], right))
	p.mp(p.mp(p.axiom(api.LinePair, left, right), first), second)
	return p
}

// half is of both parts of a pair.
func (c *compiler) half(x api.Term, k api.LineKind) *proof {
	p := c.proofOf(x.Sub[0], told)
	left, right := c.parts(p.formOf(p.last()))
	return p.on(k, left, right)
}

func (c *compiler) branch(x api.Term, goal int) *proof {
	p := c.proofOf(x.Sub[0], told)
	which := p.last()
	left, right := c.parts(p.formOf(which))
	first := p.join(c.under(x.Name, left, x.Sub[1], goal))
	_, goal = c.parts(p.formOf(first)) // also where it is told
	second := p.join(c.under(x.Other, right, x.Sub[2], goal))
	axiom := p.axiom(api.LineCase, left, right, goal)
	p.mp(p.mp(p.mp(axiom, first), second), which)
	return p
}

func (c *compiler) let(x api.Term, goal int) *proof {
	p := c.proofOf(x.Sub[0], told)
	given := p.last()
	p.mp(p.join(c.under(x.Name, p.formOf(given), x.Sub[1], goal)), given)
	return p
}
